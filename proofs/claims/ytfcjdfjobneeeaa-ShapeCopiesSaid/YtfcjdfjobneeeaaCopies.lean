/- The walk of ShapeCopies: for whatever two circuits the statement's Go function answers true, and nothing that was there has turned. -/
import Derived.Test.YtfcjdfjobneeeaaLendC
import Derived.Test.YtfcjdfjobneeeaaKeptC
import Derived.Test.YtfcjdfjobneeeaaSpoilW
import Derived.Test.YtfcjdfjobneeeaaSameP
import Derived.Test.YtfcjdfjobneeeaaWes
import Derived.Test.YtfcjdfjobneeeaaArgR
import Derived.Test.YtfcjdfjobneeeaaWorks3
namespace Go.Proofs.Ytfcjdfjobneeeaa
open Go.RowKit

theorem Cop.circ {w w' : World} {B b : Nat} {V : CV} {us : List Value} {C : Circ} {ar : Array Value} (h : Cop w B V us C) (hb : Blk w b 29 ar) (ho : ∀ k, k ≠ b → w'.heap[k]? = w.heap[k]?) : Cop w' B V us C := by
  have hne : ∀ {t : TypeId} {k n : Nat} {v : Value} {xs : List Value}, w.ownsRow B t k v n xs → t ≠ 29 → w'.ownsRow B t k v n xs := fun h0 ht =>
    own_of_block h0 fun g hg => ho g (fun e => own_blk_ne h0 hb ht (by rw [hg, e]))
  exact ⟨⟨fun p hp => hne (h.fam.own p hp) (by decide), h.fam.apart⟩, h.ul, hne h.j (by decide), hne h.l (by decide), hne h.a (by decide), hne h.s (by decide), hne h.t (by decide)⟩
theorem one_cop {w : World} {B : Nat} {V : CV} {us : List Value} {C : Circ} {m : Int} (h : Cop w B V us C) : (V.cells m).all (·.oneCell') = true := by
  have hf : ∀ p : Value × List Int, p ∈ five V C → ∃ A n c, p.1 = .slice A n c := fun p hp => by
    obtain ⟨A, c, e⟩ := own_slice_k (h.fam.own p (List.mem_append_left _ hp))
    exact ⟨A, _, c, e⟩
  simp only [five, List.mem_cons, List.not_mem_nil, or_false, forall_eq_or_imp, forall_eq] at hf
  obtain ⟨⟨_, _, _, g1⟩, ⟨_, _, _, g2⟩, ⟨_, _, _, g3⟩, ⟨_, _, _, g4⟩, ⟨_, _, _, g5⟩⟩ := hf
  obtain ⟨_, _, e1⟩ := own_slice_k h.j
  obtain ⟨_, _, e2⟩ := own_slice_k h.l
  obtain ⟨_, _, e3⟩ := own_slice_k h.a
  obtain ⟨_, _, e4⟩ := own_slice_k h.s
  obtain ⟨_, _, e5⟩ := own_slice_k h.t
  simp only [CV.cells]
  rw [g1, g2, g3, g4, g5, e1, e2, e3, e4, e5]
  simp [Value.oneCell']
theorem Cop.out_ {w0 w w' : World} {B : Nat} {V : CV} {us : List Value} {C : Circ} (h0 : Cop w0 B V us C) (h : Cop w B V us C) (ho : ∀ k, B ≤ k → k < w0.heap.size → w'.heap[k]? = w.heap[k]?) : Cop w' B V us C := by
  have hne : ∀ {t : TypeId} {k n : Nat} {v : Value} {xs ys : List Value}, w0.ownsRow B t k v n xs → w.ownsRow B t k v n ys → w'.ownsRow B t k v n ys := fun h1 h2 =>
    own_of_block h2 fun g hg => ho g (World.ownsRow.lt h1 g hg).1 (World.ownsRow.lt h1 g hg).2
  exact ⟨⟨fun p hp => hne (h0.fam.own p hp) (h.fam.own p hp), h.fam.apart⟩, h.ul, hne h0.j h.j, hne h0.l h.l, hne h0.a h.a, hne h0.s h.s, hne h0.t h.t⟩
theorem wp_act_eq {P : Program} {ops : Array Oper} {Q : Exit → Act → World → Prop} {i : Nat} {K : Act → World → Prop} {a a' : Act} {w : World} (e : a = a') (h : wpOp P ops Q i K a' w) : wpOp P ops Q i K a w := e ▸ h
def isCall (j : Nat) : Bool := j == 1 || j == 3
def isBox (j : Nat) : Bool := j == 4 || j == 5
/-- A copy, as the operations' values tell it. -/
def cpV (X : World) (A : Circ) (m : Int) (v : Value) (w : World) : Prop := ∃ (V : CV) (us : List Value) (wA : World) (B : Nat), v = V.val m ∧ X.heap.size ≤ B ∧ Cop wA B V us A ∧ Cop w B V us A ∧ wA.heap.size ≤ w.heap.size
def bxV (X : World) (v : Value) (w : World) : Prop := ∃ b, v = .pointer (some ⟨b, 0, none⟩) ∧ X.heap.size ≤ b ∧ Blk w b 29 #[.int .i64 0, .slice none 0 0, .slice none 0 0, .slice none 0 0, .slice none 0 0, .slice none 0 0, .slice none 0 0, .slice none 0 0, .slice none 0 0, .slice none 0 0, .slice none 0 0]
def cpVals (X : World) (A : Circ) (m : Int) (inv : Value) : List (Value → World → Prop) := [cst inv, cpV X A m, cst inv, cpV X A m, bxV X, bxV X]
def cpFresh (X : World) (A : Circ) (m : Int) (i : Nat) (v : Value) (w w' : World) : Prop := (isCall i = true → ∃ (V : CV) (us : List Value), v = V.val m ∧ Cop w' w.heap.size V us A ∧ X.heap.size ≤ w.heap.size) ∧ (isBox i = true → v = .pointer (some ⟨w.heap.size, 0, none⟩))
def cpSep (X : World) (A : Circ) (m : Int) (j : Nat) (u : Value) (i : Nat) (v : Value) (w : World) : Prop :=
  (isCall j = true → isCall i = true → ∃ (Va : CV) (ua : List Value) (wA : World) (Ba : Nat) (Vb : CV) (ub : List Value) (wB : World) (Bb : Nat), (u = Va.val m ∧ v = Vb.val m) ∧ (X.heap.size ≤ Ba ∧ X.heap.size ≤ Bb) ∧ (Cop wA Ba Va ua A ∧ Cop w Ba Va ua A ∧ wA.heap.size ≤ w.heap.size) ∧ (Cop wB Bb Vb ub A ∧ Cop w Bb Vb ub A ∧ wB.heap.size ≤ w.heap.size) ∧ (wA.heap.size ≤ Bb ∨ wB.heap.size ≤ Ba)) ∧
  (isBox j = true → isBox i = true → u ≠ v)
theorem cpV_on {X : World} {A : Circ} {m : Int} : ∀ (v : Value) (w1 w2 : World), Below w1.heap.size w1 w2 → cpV X A m v w1 → cpV X A m v w2 := by
  rintro v w1 w2 hb ⟨V, us, wA, B, e, h1, h2, h3, h4⟩
  exact ⟨V, us, wA, B, e, h1, h2, h3.below hb, Nat.le_trans h4 hb.size⟩
theorem bxV_on {X : World} : ∀ (v : Value) (w1 w2 : World), Below w1.heap.size w1 w2 → bxV X v w1 → bxV X v w2 := by
  rintro v w1 w2 hb ⟨b, e, h1, h2⟩
  exact ⟨b, e, h1, h2.below hb h2.lt⟩
theorem cp_keep {X : World} {A : Circ} {m : Int} {inv : Value} : ∀ i v w1 w2, Below (World.heap w1).size w1 w2 → valL (cpVals X A m inv) i v w1 → valL (cpVals X A m inv) i v w2 := by
  refine valL_keep (G := fun w1 w2 => Below (World.heap w1).size w1 w2) _ (fun p hp => ?_)
  simp only [cpVals, List.mem_cons, List.not_mem_nil, or_false] at hp
  rcases hp with rfl | rfl | rfl | rfl | rfl | rfl
  · exact cst_stab _
  · exact fun v w1 w2 hb h => cpV_on v w1 w2 hb h
  · exact cst_stab _
  · exact fun v w1 w2 hb h => cpV_on v w1 w2 hb h
  · exact fun v w1 w2 hb h => bxV_on v w1 w2 hb h
  · exact fun v w1 w2 hb h => bxV_on v w1 w2 hb h
theorem cp_sk {X : World} {A : Circ} {m : Int} : ∀ (j : Nat) (u : Value) (i : Nat) (v : Value) (w1 w2 : World), Below w1.heap.size w1 w2 → cpSep X A m j u i v w1 → cpSep X A m j u i v w2 := by
  rintro j u i v w1 w2 hb ⟨h1, h2⟩
  refine ⟨fun hj hi => ?_, h2⟩
  obtain ⟨Va, ua, wA, Ba, Vb, ub, wB, Bb, e, hX, ⟨a1, a2, a3⟩, ⟨b1, b2, b3⟩, hs⟩ := h1 hj hi
  exact ⟨Va, ua, wA, Ba, Vb, ub, wB, Bb, e, hX, ⟨a1, a2.below hb, Nat.le_trans a3 hb.size⟩, ⟨b1, b2.below hb, Nat.le_trans b3 hb.size⟩, hs⟩
theorem cp_at {X : World} {A : Circ} {m : Int} {inv : Value} {j : Nat} {u : Value} {w : World} (hj : isCall j = true) (h : valL (cpVals X A m inv) j u w) : cpV X A m u w := by
  have : j = 1 ∨ j = 3 := by simpa [isCall] using hj
  rcases this with rfl | rfl
  · exact h
  · exact h
theorem bx_at {X : World} {A : Circ} {m : Int} {inv : Value} {j : Nat} {u : Value} {w : World} (hj : isBox j = true) (h : valL (cpVals X A m inv) j u w) : bxV X u w := by
  have : j = 4 ∨ j = 5 := by simpa [isBox] using hj
  rcases this with rfl | rfl
  · exact h
  · exact h
theorem cp_sep {X : World} {A : Circ} {m : Int} {inv : Value} : ∀ (j : Nat) (u : Value) (i : Nat) (v : Value) (w w' : World), j ≠ i → valL (cpVals X A m inv) j u w → Below w.heap.size w w' → valL (cpVals X A m inv) i v w' → cpFresh X A m i v w w' → cpSep X A m j u i v w' ∧ cpSep X A m i v j u w' := by
  intro j u i v w w' _ hu hb hv hf
  have key : isCall j = true → isCall i = true → ∃ (Va : CV) (ua : List Value) (wA : World) (Ba : Nat) (Vb : CV) (ub : List Value) (wB : World) (Bb : Nat), (u = Va.val m ∧ v = Vb.val m) ∧ (X.heap.size ≤ Ba ∧ X.heap.size ≤ Bb) ∧ (Cop wA Ba Va ua A ∧ Cop w' Ba Va ua A ∧ wA.heap.size ≤ w'.heap.size) ∧ (Cop wB Bb Vb ub A ∧ Cop w' Bb Vb ub A ∧ wB.heap.size ≤ w'.heap.size) ∧ wA.heap.size ≤ Bb := fun hj hi => by
    obtain ⟨Va, ua, wA, Ba, e1, h1, h2, h3, h4⟩ := cp_at hj hu
    obtain ⟨Vb, ub, e2, h5, h6⟩ := hf.1 hi
    exact ⟨Va, ua, wA, Ba, Vb, ub, w', w.heap.size, ⟨e1, e2⟩, ⟨h1, h6⟩, ⟨h2, h3.below hb, Nat.le_trans h4 hb.size⟩, ⟨h5, h5, Nat.le_refl _⟩, h4⟩
  have bx : isBox j = true → isBox i = true → u ≠ v := fun hj hi e => by
    obtain ⟨b, e1, _, h2⟩ := bx_at hj hu
    have e2 := hf.2 hi
    rw [e1, e2] at e
    have := h2.lt
    injection e with e; injection e with e; injection e with e
    omega
  refine ⟨⟨fun hj hi => ?_, bx⟩, ⟨fun hi hj => ?_, fun hi hj => Ne.symm (bx hj hi)⟩⟩
  · obtain ⟨Va, ua, wA, Ba, Vb, ub, wB, Bb, e, hX, a, b, hs⟩ := key hj hi
    exact ⟨Va, ua, wA, Ba, Vb, ub, wB, Bb, e, hX, a, b, .inl hs⟩
  · obtain ⟨Va, ua, wA, Ba, Vb, ub, wB, Bb, e, hX, a, b, hs⟩ := key hj hi
    exact ⟨Vb, ub, wB, Bb, Va, ua, wA, Ba, ⟨e.2, e.1⟩, ⟨hX.2, hX.1⟩, b, a, .inr hs⟩

set_option maxHeartbeats 8000000 in
set_option maxRecDepth 100000 in
theorem copies_walk (w : World) (V : CV) (A : Circ) (U : CV) (D : Circ) (h : A.In w V) (ok : A.Ok) (rm : A.Room ∧ A.Reach) (h' : D.In w U) (_ok' : D.Ok) (_rm' : D.Room ∧ D.Reach) :
    Calls Try.prog 5 #[V.val A.max, U.val D.max] w fun e w' => e = .returned (.bool true) ∧ Below w.heap.size w w' := by
  obtain ⟨m, hmm⟩ : ∃ m, A.max = m := ⟨_, rfl⟩
  obtain ⟨n, hnn⟩ : ∃ n, D.max = n := ⟨_, rfl⟩
  have HMM := Lib.hid hmm
  have HNN := Lib.hid hnn
  obtain ⟨Vi, Vl, Vo, Vb, Vc, Vj, Vf, Va, Vs, Vt⟩ := V
  obtain ⟨Ui, Ul, Uo, Ub, Uc, Uj, Uf, Ua, Us, Ut⟩ := U
  obtain ⟨W0, hW0⟩ : ∃ W0, W0 = (w.alloc (.cells #[.int .i64 m, Vi, Vl, Vo, Vb, Vc, Vj, Vf, Va, Vs, Vt] 29)).alloc (.cells #[.int .i64 n, Ui, Ul, Uo, Ub, Uc, Uj, Uf, Ua, Us, Ut] 29) := ⟨_, rfl⟩
  have HB0 : Hid (Below w.heap.size w W0) := Lib.hid (by rw [hW0]; exact ((Below.refl w.heap.size w).alloc (Nat.le_refl _) _).alloc (by simp) _)
  have HS0 : Hid (W0.heap.size = w.heap.size + 1 + 1) := Lib.hid (by rw [hW0]; simp)
  have HIN : Hid (∀ wz, Below W0.heap.size W0 wz → A.In wz ⟨Vi, Vl, Vo, Vb, Vc, Vj, Vf, Va, Vs, Vt⟩ ∧ D.In wz ⟨Ui, Ul, Uo, Ub, Uc, Uj, Uf, Ua, Us, Ut⟩ ∧ Blk wz w.heap.size 29 #[.int .i64 m, Vi, Vl, Vo, Vb, Vc, Vj, Vf, Va, Vs, Vt] ∧ Blk wz (w.heap.size + 1) 29 #[.int .i64 n, Ui, Ul, Uo, Ub, Uc, Uj, Uf, Ua, Us, Ut] ∧ Below w.heap.size w wz) := Lib.hid (fun wz hb => by
    have h1 : Blk W0 w.heap.size 29 #[.int .i64 m, Vi, Vl, Vo, Vb, Vc, Vj, Vf, Va, Vs, Vt] := by rw [hW0]; exact (Blk.new w _ _).alloc _
    have h2 : Blk W0 (w.heap.size + 1) 29 #[.int .i64 n, Ui, Ul, Uo, Ub, Uc, Uj, Uf, Ua, Us, Ut] := by
      rw [hW0]
      have := Blk.new (w.alloc (.cells #[.int .i64 m, Vi, Vl, Vo, Vb, Vc, Vj, Vf, Va, Vs, Vt] 29)) 29 #[.int .i64 n, Ui, Ul, Uo, Ub, Uc, Uj, Uf, Ua, Us, Ut]
      rwa [show (w.alloc (.cells #[.int .i64 m, Vi, Vl, Vo, Vb, Vc, Vj, Vf, Va, Vs, Vt] 29)).heap.size = w.heap.size + 1 by simp] at this
    exact ⟨(h.below HB0.out).below hb, (h'.below HB0.out).below hb, h1.below hb h1.lt, h2.below hb h2.lt, HB0.out.trans (hb.mono HB0.out.size)⟩)
  have hle := LendCircuit_any W0 _ A (h.below HB0.out) rm.1 ⟨rm.2.i, rm.2.o, rm.2.b, rm.2.c, rm.2.f, rm.2.l, rm.2.a⟩
  rw [hmm] at hle
  have HLE := Lib.hid hle
  have HRM := Lib.hid rm.1
  have HOK := Lib.hid ok
  have HW0 := Lib.hid hW0
  rw [hmm, hnn]
  clear h h' ok rm hle hmm hnn
  rw [hW0] at HLE
  clear hW0
  go_enter Try.func5, Try.ntmps5
  go_upto_region 2 with (go_at_call 9; go_loud (refine HLE.out.mono ?_; rw [← HW0.out]; rintro e w1 ⟨V', us, rfl, hb1, hl1⟩; have HB1 := Lib.hid hb1; have HL1 := Lib.hid hl1; obtain ⟨Wi, Wl, Wo, Wb, Wc, Wj, Wf, Wa, Ws, Wt⟩ := V'; obtain ⟨x1, x2, x3, q1, _⟩ := hl1.i; obtain ⟨x4, x5, x6, q2, _⟩ := hl1.l; obtain ⟨x7, x8, x9, q3, _⟩ := hl1.o; obtain ⟨x10, x11, x12, q4, _⟩ := hl1.b; obtain ⟨x13, x14, x15, q5, _⟩ := hl1.c; obtain ⟨j1, j2, j3, q6⟩ := own_slc hl1.j.own; obtain ⟨x16, x17, x18, q7, _⟩ := hl1.f; obtain ⟨x19, x20, x21, q10, _⟩ := hl1.a; obtain ⟨s1, s2, s3, q8⟩ := own_slc hl1.s; obtain ⟨t1, t2, t3, q9⟩ := own_slc hl1.t; simp only at q1 q2 q3 q4 q5 q6 q7 q8 q9 q10; obtain ⟨i1, i2, i3, p1⟩ : Slc Wi := ⟨_, _, _, q1⟩; obtain ⟨l1, l2, l3, p2⟩ : Slc Wl := ⟨_, _, _, q2⟩; obtain ⟨o1, o2, o3, p3⟩ : Slc Wo := ⟨_, _, _, q3⟩; obtain ⟨b1, b2, b3, p4⟩ : Slc Wb := ⟨_, _, _, q4⟩; obtain ⟨d1, d2, d3, p5⟩ : Slc Wc := ⟨_, _, _, q5⟩; obtain ⟨f1, f2, f3, p7⟩ : Slc Wf := ⟨_, _, _, q7⟩; obtain ⟨a1, a2, a3, p10⟩ : Slc Wa := ⟨_, _, _, q10⟩; clear q1 q2 q3 q4 q5 q7 q10; subst p1 p2 p3 p4 p5 q6 p7 p10 q8 q9; clear hb1 hl1))
  obtain ⟨X, hX⟩ : ∃ X, X = w1.alloc (.cells #[.int .i64 m, .slice i1 i2 i3, .slice l1 l2 l3, .slice o1 o2 o3, .slice b1 b2 b3, .slice d1 d2 d3, .slice j1 j2 j3, .slice f1 f2 f3, .slice a1 a2 a3, .slice s1 s2 s3, .slice t1 t2 t3] 29) := ⟨_, rfl⟩
  have HX := Lib.hid hX
  have HX1 : Hid (Below w1.heap.size w1 X) := Lib.hid (by rw [hX]; exact (Below.refl _ _).alloc (Nat.le_refl _) _)
  have HXB : Hid (Blk X w1.heap.size 29 #[.int .i64 m, .slice i1 i2 i3, .slice l1 l2 l3, .slice o1 o2 o3, .slice b1 b2 b3, .slice d1 d2 d3, .slice j1 j2 j3, .slice f1 f2 f3, .slice a1 a2 a3, .slice s1 s2 s3, .slice t1 t2 t3]) := Lib.hid (by rw [hX]; exact Blk.new w1 _ _)
  have HOLD : Hid (∀ wz, Below X.heap.size X wz → (A.In wz ⟨Vi, Vl, Vo, Vb, Vc, Vj, Vf, Va, Vs, Vt⟩ ∧ D.In wz ⟨Ui, Ul, Uo, Ub, Uc, Uj, Uf, Ua, Us, Ut⟩ ∧ Blk wz w.heap.size 29 #[.int .i64 m, Vi, Vl, Vo, Vb, Vc, Vj, Vf, Va, Vs, Vt] ∧ Blk wz (w.heap.size + 1) 29 #[.int .i64 n, Ui, Ul, Uo, Ub, Uc, Uj, Uf, Ua, Us, Ut] ∧ Below w.heap.size w wz) ∧ LentC wz W0.heap.size A us ⟨.slice i1 i2 i3, .slice l1 l2 l3, .slice o1 o2 o3, .slice b1 b2 b3, .slice d1 d2 d3, .slice j1 j2 j3, .slice f1 f2 f3, .slice a1 a2 a3, .slice s1 s2 s3, .slice t1 t2 t3⟩ ∧ Blk wz w1.heap.size 29 #[.int .i64 m, .slice i1 i2 i3, .slice l1 l2 l3, .slice o1 o2 o3, .slice b1 b2 b3, .slice d1 d2 d3, .slice j1 j2 j3, .slice f1 f2 f3, .slice a1 a2 a3, .slice s1 s2 s3, .slice t1 t2 t3]) := Lib.hid (fun wz hb => by
    have h1 : Below w1.heap.size w1 wz := bt HX1.out (Nat.le_refl _) hb
    exact ⟨HIN.out wz (bt HB1.out (Nat.le_refl _) h1), HL1.out.below h1, HXB.out.below hb HXB.out.lt⟩)
  rw [← HX.out]
  clear hX
  have HCP : Hid (∀ wz, Below X.heap.size X wz → _) := Lib.hid (fun wz hb => Copy_any wz ⟨.slice i1 i2 i3, .slice l1 l2 l3, .slice o1 o2 o3, .slice b1 b2 b3, .slice d1 d2 d3, .slice j1 j2 j3, .slice f1 f2 f3, .slice a1 a2 a3, .slice s1 s2 s3, .slice t1 t2 t3⟩ A (HOLD.out wz hb).2.1.in_ HOK.out.max HRM.out)
  rw [HMM.out] at HCP
  refine region_lit ?_
  intro ops hops
  have HBA : (webB ops && acyB ops && (ops.size == 6 + 2) && Region.sinkB .any ops 6 && Region.waitsFor .any ops (6 + 1) 6) = true := by rw [hops]; kernel_rfl
  have HB : webB ops = true := by rw [hops]; kernel_rfl
  have HND5 : ∀ j, j < ops.size → dstOf ops j ≠ some 5 := noDst_spec (by rw [hops]; kernel_rfl)
  obtain ⟨w0, hw0⟩ : ∃ w0 : World, w0 = { X with drawn := X.drawn + 1 } := ⟨_, rfl⟩
  have hb0 : Below X.heap.size X w0 := by rw [hw0]; exact (Below.refl _ _).drew
  have hs0 : w0.heap.size = X.heap.size := by rw [hw0]
  refine wp_region_wes (by kernel_rfl) 6 HBA (fun w1 w2 => Below w1.heap.size w1 w2) (valL (cpVals X A m (.agg #[.int .i64 m, .slice i1 i2 i3, .slice l1 l2 l3, .slice o1 o2 o3, .slice b1 b2 b3, .slice d1 d2 d3, .slice j1 j2 j3, .slice f1 f2 f3, .slice a1 a2 a3, .slice s1 s2 s3, .slice t1 t2 t3]))) (cpFresh X A m) (cpSep X A m) cp_sep cp_sk (fun a => Below.refl _ _) (fun a b c h1 h2 => bt h1 (Nat.le_refl _) h2) cp_keep ?_ ?_
  · intro i o hi ho
    rw [← hw0]
    rw [hops] at ho
    match i, hi, ho with
    | 0, _, ho =>
      simp only [List.getElem?_toArray, List.getElem?_cons_zero, Option.some.injEq] at ho; subst ho
      refine wesStep_of HB rfl (fun f aC wz hw hd ha hv hsp K hK => ?_)
      have hbx : Below X.heap.size X wz := bt hb0 (Nat.le_refl _) (hw.mono (Nat.le_refl _))
      have e1 : aC.eval (.tmp 5) = .pointer (some ⟨w1.heap.size, 0, none⟩) := (ha 5 HND5).trans rfl
      refine wp_load_row 29 (.tmp 5) rfl w1.heap.size e1 29 #[.int .i64 m, .slice i1 i2 i3, .slice l1 l2 l3, .slice o1 o2 o3, .slice b1 b2 b3, .slice d1 d2 d3, .slice j1 j2 j3, .slice f1 f2 f3, .slice a1 a2 a3, .slice s1 s2 s3, .slice t1 t2 t3] (0, 0) _ (HOLD.out wz hbx).2.2 Try.underlying29 rfl (by kernel_rfl) ?_
      exact hK _ _ (Below.refl _ _) rfl ⟨fun h => absurd h (by decide), fun h => absurd h (by decide)⟩
    | 1, _, ho =>
      simp only [List.getElem?_toArray, List.getElem?_cons_zero, List.getElem?_cons_succ, Option.some.injEq] at ho; subst ho
      refine wesStep_of HB rfl (fun f aC wz hw hd ha hv hsp K hK => ?_)
      have hbx : Below X.heap.size X wz := bt hb0 (Nat.le_refl _) (hw.mono (Nat.le_refl _))
      have e1 : aC.eval (.tmp 10) = .agg #[.int .i64 m, .slice i1 i2 i3, .slice l1 l2 l3, .slice o1 o2 o3, .slice b1 b2 b3, .slice d1 d2 d3, .slice j1 j2 j3, .slice f1 f2 f3, .slice a1 a2 a3, .slice s1 s2 s3, .slice t1 t2 t3] := (hd 0 10 (by rw [hops]; kernel_rfl : Region.waitsFor .any ops 1 0 = true) (by rw [hops]; kernel_rfl : dstOf ops 0 = some 10) (by simp)).trans (hv 0 (by rw [hops]; kernel_rfl : Region.waitsFor .any ops 1 0 = true))
      refine wp_enter (f := 24) (args := #[.agg #[.int .i64 m, .slice i1 i2 i3, .slice l1 l2 l3, .slice o1 o2 o3, .slice b1 b2 b3, .slice d1 d2 d3, .slice j1 j2 j3, .slice f1 f2 f3, .slice a1 a2 a3, .slice s1 s2 s3, .slice t1 t2 t3]]) ?_ ((HCP.out wz hbx).mono ?_)
      · simp [execOp, resolve, e1]; rfl
      · rintro e w' ⟨V', us', rfl, hbel, hcop⟩
        exact ⟨_, rfl, hK _ w' hbel ⟨V', us', w', wz.heap.size, rfl, hbx.size, hcop, hcop, Nat.le_refl _⟩ ⟨fun _ => ⟨V', us', rfl, hcop, hbx.size⟩, fun h => absurd h (by decide)⟩⟩
    | 2, _, ho =>
      simp only [List.getElem?_toArray, List.getElem?_cons_zero, List.getElem?_cons_succ, Option.some.injEq] at ho; subst ho
      refine wesStep_of HB rfl (fun f aC wz hw hd ha hv hsp K hK => ?_)
      have hbx : Below X.heap.size X wz := bt hb0 (Nat.le_refl _) (hw.mono (Nat.le_refl _))
      have e1 : aC.eval (.tmp 5) = .pointer (some ⟨w1.heap.size, 0, none⟩) := (ha 5 HND5).trans rfl
      refine wp_load_row 29 (.tmp 5) rfl w1.heap.size e1 29 #[.int .i64 m, .slice i1 i2 i3, .slice l1 l2 l3, .slice o1 o2 o3, .slice b1 b2 b3, .slice d1 d2 d3, .slice j1 j2 j3, .slice f1 f2 f3, .slice a1 a2 a3, .slice s1 s2 s3, .slice t1 t2 t3] (0, 0) _ (HOLD.out wz hbx).2.2 Try.underlying29 rfl (by kernel_rfl) ?_
      exact hK _ _ (Below.refl _ _) rfl ⟨fun h => absurd h (by decide), fun h => absurd h (by decide)⟩
    | 3, _, ho =>
      simp only [List.getElem?_toArray, List.getElem?_cons_zero, List.getElem?_cons_succ, Option.some.injEq] at ho; subst ho
      refine wesStep_of HB rfl (fun f aC wz hw hd ha hv hsp K hK => ?_)
      have hbx : Below X.heap.size X wz := bt hb0 (Nat.le_refl _) (hw.mono (Nat.le_refl _))
      have e1 : aC.eval (.tmp 12) = .agg #[.int .i64 m, .slice i1 i2 i3, .slice l1 l2 l3, .slice o1 o2 o3, .slice b1 b2 b3, .slice d1 d2 d3, .slice j1 j2 j3, .slice f1 f2 f3, .slice a1 a2 a3, .slice s1 s2 s3, .slice t1 t2 t3] := (hd 2 12 (by rw [hops]; kernel_rfl : Region.waitsFor .any ops 3 2 = true) (by rw [hops]; kernel_rfl : dstOf ops 2 = some 12) (by simp)).trans (hv 2 (by rw [hops]; kernel_rfl : Region.waitsFor .any ops 3 2 = true))
      refine wp_enter (f := 24) (args := #[.agg #[.int .i64 m, .slice i1 i2 i3, .slice l1 l2 l3, .slice o1 o2 o3, .slice b1 b2 b3, .slice d1 d2 d3, .slice j1 j2 j3, .slice f1 f2 f3, .slice a1 a2 a3, .slice s1 s2 s3, .slice t1 t2 t3]]) ?_ ((HCP.out wz hbx).mono ?_)
      · simp [execOp, resolve, e1]; rfl
      · rintro e w' ⟨V', us', rfl, hbel, hcop⟩
        exact ⟨_, rfl, hK _ w' hbel ⟨V', us', w', wz.heap.size, rfl, hbx.size, hcop, hcop, Nat.le_refl _⟩ ⟨fun _ => ⟨V', us', rfl, hcop, hbx.size⟩, fun h => absurd h (by decide)⟩⟩
    | 4, _, ho =>
      simp only [List.getElem?_toArray, List.getElem?_cons_zero, List.getElem?_cons_succ, Option.some.injEq] at ho; subst ho
      refine wesStep_of HB rfl (fun f aC wz hw hd ha hv hsp K hK => ?_)
      have hbx : Below X.heap.size X wz := bt hb0 (Nat.le_refl _) (hw.mono (Nat.le_refl _))
      refine wp_val (v := .pointer (some ⟨wz.heap.size, 0, none⟩)) (w' := wz.alloc (.cells #[.int .i64 0, .slice none 0 0, .slice none 0 0, .slice none 0 0, .slice none 0 0, .slice none 0 0, .slice none 0 0, .slice none 0 0, .slice none 0 0, .slice none 0 0, .slice none 0 0] 29)) ?_ (hK _ _ ((Below.refl _ _).alloc (Nat.le_refl _) _) ⟨_, rfl, hbx.size, Blk.new _ _ _⟩ ⟨fun h => absurd h (by decide), fun _ => rfl⟩)
      exact run_value (alloc_circ wz)
    | 5, _, ho =>
      simp only [List.getElem?_toArray, List.getElem?_cons_zero, List.getElem?_cons_succ, Option.some.injEq] at ho; subst ho
      refine wesStep_of HB rfl (fun f aC wz hw hd ha hv hsp K hK => ?_)
      have hbx : Below X.heap.size X wz := bt hb0 (Nat.le_refl _) (hw.mono (Nat.le_refl _))
      refine wp_val (v := .pointer (some ⟨wz.heap.size, 0, none⟩)) (w' := wz.alloc (.cells #[.int .i64 0, .slice none 0 0, .slice none 0 0, .slice none 0 0, .slice none 0 0, .slice none 0 0, .slice none 0 0, .slice none 0 0, .slice none 0 0, .slice none 0 0, .slice none 0 0] 29)) ?_ (hK _ _ ((Below.refl _ _).alloc (Nat.le_refl _) _) ⟨_, rfl, hbx.size, Blk.new _ _ _⟩ ⟨fun h => absurd h (by decide), fun _ => rfl⟩)
      exact run_value (alloc_circ wz)
    | n + 6, h, _ => exact absurd h (by omega)
  · intro f wz hw hv hsp
    rw [← hw0] at hw
    obtain ⟨Y1, u1, wA, B1, Y2, u2, wB, B2, ⟨e1, e2⟩, ⟨hX1, hX2⟩, ⟨ka1, ka2, ka3⟩, ⟨kb1, kb2, kb3⟩, hs⟩ := (hsp 1 3 (by decide) (by decide) (by decide)).1 rfl rfl
    obtain ⟨x6, e6, h6, k6⟩ : bxV X (f 4) wz := hv 4 (by decide)
    obtain ⟨x7, e7, h7, k7⟩ : bxV X (f 5) wz := hv 5 (by decide)
    have hne : x6 ≠ x7 := fun e => (hsp 4 5 (by decide) (by decide) (by decide)).2 rfl rfl (by rw [e6, e7, e])
    have e : putAll ops f (List.range 6) ({ tmps := #[.agg #[.int .i64 m, Vi, Vl, Vo, Vb, Vc, Vj, Vf, Va, Vs, Vt], .agg #[.int .i64 n, Ui, Ul, Uo, Ub, Uc, Uj, Uf, Ua, Us, Ut], .pointer (some ⟨w.heap.size, 0, none⟩), .pointer (some ⟨w.heap.size + 1, 0, none⟩), .bool false, .pointer (some ⟨w1.heap.size, 0, none⟩), undef, undef, .agg #[.int .i64 m, Vi, Vl, Vo, Vb, Vc, Vj, Vf, Va, Vs, Vt], .agg #[.int .i64 m, .slice i1 i2 i3, .slice l1 l2 l3, .slice o1 o2 o3, .slice b1 b2 b3, .slice d1 d2 d3, .slice j1 j2 j3, .slice f1 f2 f3, .slice a1 a2 a3, .slice s1 s2 s3, .slice t1 t2 t3], undef, undef, undef, undef, undef, undef, undef, undef, undef, undef, undef, undef, undef, undef, undef, undef, undef, undef, undef, undef, undef, undef, undef, undef, undef, undef, undef, undef, undef, undef, undef, undef, undef, undef, undef, undef], defers := [] } : Act) = ({ tmps := #[.agg #[.int .i64 m, Vi, Vl, Vo, Vb, Vc, Vj, Vf, Va, Vs, Vt], .agg #[.int .i64 n, Ui, Ul, Uo, Ub, Uc, Uj, Uf, Ua, Us, Ut], .pointer (some ⟨w.heap.size, 0, none⟩), .pointer (some ⟨w.heap.size + 1, 0, none⟩), .bool false, .pointer (some ⟨w1.heap.size, 0, none⟩), f 4, f 5, .agg #[.int .i64 m, Vi, Vl, Vo, Vb, Vc, Vj, Vf, Va, Vs, Vt], .agg #[.int .i64 m, .slice i1 i2 i3, .slice l1 l2 l3, .slice o1 o2 o3, .slice b1 b2 b3, .slice d1 d2 d3, .slice j1 j2 j3, .slice f1 f2 f3, .slice a1 a2 a3, .slice s1 s2 s3, .slice t1 t2 t3], f 0, f 1, f 2, f 3, undef, undef, undef, undef, undef, undef, undef, undef, undef, undef, undef, undef, undef, undef, undef, undef, undef, undef, undef, undef, undef, undef, undef, undef, undef, undef, undef, undef, undef, undef, undef, undef], defers := [] } : Act) := by rw [hops]; kernel_rfl
    refine wp_act_eq e ?_
    clear e
    have ho6 : ∃ o, ops[6]? = some o ∧ o.guard = none ∧ o.op = .store 29 (.tmp 6) (.tmp 11) ∧ o.dst = none := by rw [hops]; exact ⟨_, rfl, rfl, rfl, rfl⟩
    obtain ⟨o, ho1, ho2, ho3, ho4⟩ := ho6
    refine wpOp_of ho1 ho2 ?_
    refine wp_store_row 29 (.tmp 6) (.tmp 11) ho3 x6 (Y1.cells m) (by exact e6) (by exact e1) 29 _ k6 (by kernel_rfl) rfl (one_cop ka2) ?_
    rw [ho4]
    clear ho1 ho2 ho3 ho4 o
    obtain ⟨w3, hw3⟩ : ∃ w3, w3 = wz.setRow x6 (Y1.cells m) := ⟨_, rfl⟩
    rw [← hw3]
    have k6' : Blk w3 x6 29 #[.int .i64 m, Y1.i, Y1.l, Y1.o, Y1.b, Y1.c, Y1.j, Y1.f, Y1.a, Y1.s, Y1.t] := by rw [hw3]; exact setRow_heap wz x6 _ (Y1.cells m) _ _ k6
    have ot3 : ∀ k, k ≠ x6 → w3.heap[k]? = wz.heap[k]? := fun k hk => by
      rw [hw3]
      simp only [World.setRow, Array.getElem?_modify]
      rw [if_neg (fun e => hk e.symm)]
    have sz3 : w3.heap.size = wz.heap.size := by rw [hw3]; simp
    have k7' : Blk w3 x7 29 #[.int .i64 0, .slice none 0 0, .slice none 0 0, .slice none 0 0, .slice none 0 0, .slice none 0 0, .slice none 0 0, .slice none 0 0, .slice none 0 0, .slice none 0 0, .slice none 0 0] := (ot3 x7 (Ne.symm hne)).trans k7
    have hb3 : Below X.heap.size X w3 := by
      have h1 := bt hb0 (by omega) (hw.mono (Nat.le_refl _))
      exact ⟨by rw [hw3]; exact h1.os, by rw [hw3]; exact h1.tape, by rw [hw3]; exact h1.output, by rw [sz3]; exact h1.size, fun k hk => (ot3 k (by omega)).trans (h1.block k hk)⟩
    have kc3 := ka2.circ k6 ot3
    have kd3 := kb2.circ k6 ot3
    clear hw3 ot3
    have ho7 : ∃ o, ops[7]? = some o ∧ o.guard = none ∧ o.op = .store 29 (.tmp 7) (.tmp 13) ∧ o.dst = none := by rw [hops]; exact ⟨_, rfl, rfl, rfl, rfl⟩
    obtain ⟨o, ho1, ho2, ho3, ho4⟩ := ho7
    refine wpOp_of ho1 ho2 ?_
    refine wp_store_row 29 (.tmp 7) (.tmp 13) ho3 x7 (Y2.cells m) (by exact e7) (by exact e2) 29 _ k7' (by kernel_rfl) rfl (one_cop kb2) ?_
    rw [ho4]
    clear ho1 ho2 ho3 ho4 o hops HBA HB HND5
    obtain ⟨w5, hw5⟩ : ∃ w5, w5 = w3.setRow x7 (Y2.cells m) := ⟨_, rfl⟩
    rw [← hw5]
    have l7 : Blk w5 x7 29 #[.int .i64 m, Y2.i, Y2.l, Y2.o, Y2.b, Y2.c, Y2.j, Y2.f, Y2.a, Y2.s, Y2.t] := by rw [hw5]; exact setRow_heap w3 x7 _ (Y2.cells m) _ _ k7'
    have ot5 : ∀ k, k ≠ x7 → w5.heap[k]? = w3.heap[k]? := fun k hk => by
      rw [hw5]
      simp only [World.setRow, Array.getElem?_modify]
      rw [if_neg (fun e => hk e.symm)]
    have sz5 : w5.heap.size = w3.heap.size := by rw [hw5]; simp
    have l6 : Blk w5 x6 29 #[.int .i64 m, Y1.i, Y1.l, Y1.o, Y1.b, Y1.c, Y1.j, Y1.f, Y1.a, Y1.s, Y1.t] := (ot5 x6 hne).trans k6'
    have hb5 : Below X.heap.size X w5 := ⟨by rw [hw5]; exact hb3.os, by rw [hw5]; exact hb3.tape, by rw [hw5]; exact hb3.output, by rw [sz5]; exact hb3.size, fun k hk => (ot5 k (by omega)).trans (hb3.block k hk)⟩
    have kc5 := kc3.circ k7' ot5
    have kd5 := kd3.circ k7' ot5
    rw [e1, e2, e6, e7, show f 0 = .agg #[.int .i64 m, .slice i1 i2 i3, .slice l1 l2 l3, .slice o1 o2 o3, .slice b1 b2 b3, .slice d1 d2 d3, .slice j1 j2 j3, .slice f1 f2 f3, .slice a1 a2 a3, .slice s1 s2 s3, .slice t1 t2 t3] from hv 0 (by decide), show f 2 = .agg #[.int .i64 m, .slice i1 i2 i3, .slice l1 l2 l3, .slice o1 o2 o3, .slice b1 b2 b3, .slice d1 d2 d3, .slice j1 j2 j3, .slice f1 f2 f3, .slice a1 a2 a3, .slice s1 s2 s3, .slice t1 t2 t3] from hv 2 (by decide)]
    clear hw5 ot5 hsp hv kc3 kd3 k6 k7 k6' k7' hb3 e1 e2 e6 e7 hw hb0 hs0 hw0 h6 h7 HCP
    have HC5 := Lib.hid (And.intro (And.intro ka1 kc5) (And.intro kb1 kd5))
    have HSA : Hid ((X.heap.size ≤ B1 ∧ X.heap.size ≤ B2) ∧ (wA.heap.size ≤ w5.heap.size ∧ wB.heap.size ≤ w5.heap.size) ∧ (wA.heap.size ≤ B2 ∨ wB.heap.size ≤ B1)) := Lib.hid ⟨⟨hX1, hX2⟩, ⟨by omega, by omega⟩, hs⟩
    have HB5 := Lib.hid hb5
    have HL67 := Lib.hid (And.intro l6 l7)
    clear ka1 ka2 ka3 kb1 kb2 kb3 kc5 kd5 hX1 hX2 hs hb5 l6 l7 sz3 sz5 hne
    have HQ1 : Hid (∀ wz, Below w5.heap.size w5 wz → wz.cell? ⟨w.heap.size, 0, none⟩ = some (.int .i64 m) ∧ wz.cell? ⟨w.heap.size, 1, none⟩ = some (Vi) ∧ wz.cell? ⟨w.heap.size, 2, none⟩ = some (Vl) ∧ wz.cell? ⟨w.heap.size, 3, none⟩ = some (Vo) ∧ wz.cell? ⟨w.heap.size, 4, none⟩ = some (Vb) ∧ wz.cell? ⟨w.heap.size, 5, none⟩ = some (Vc) ∧ wz.cell? ⟨w.heap.size, 6, none⟩ = some (Vj) ∧ wz.cell? ⟨w.heap.size, 7, none⟩ = some (Vf) ∧ wz.cell? ⟨w.heap.size, 8, none⟩ = some (Va) ∧ wz.cell? ⟨w.heap.size, 9, none⟩ = some (Vs) ∧ wz.cell? ⟨w.heap.size, 10, none⟩ = some (Vt)) := Lib.hid (fun wz hb => by
      have q := (HOLD.out wz (bt HB5.out (Nat.le_refl _) hb)).1.2.2.1
      exact ⟨q.cell 0, q.cell 1, q.cell 2, q.cell 3, q.cell 4, q.cell 5, q.cell 6, q.cell 7, q.cell 8, q.cell 9, q.cell 10⟩)
    have HQ2 : Hid (∀ wz, Below w5.heap.size w5 wz → wz.cell? ⟨w.heap.size + 1, 0, none⟩ = some (.int .i64 n) ∧ wz.cell? ⟨w.heap.size + 1, 1, none⟩ = some (Ui) ∧ wz.cell? ⟨w.heap.size + 1, 2, none⟩ = some (Ul) ∧ wz.cell? ⟨w.heap.size + 1, 3, none⟩ = some (Uo) ∧ wz.cell? ⟨w.heap.size + 1, 4, none⟩ = some (Ub) ∧ wz.cell? ⟨w.heap.size + 1, 5, none⟩ = some (Uc) ∧ wz.cell? ⟨w.heap.size + 1, 6, none⟩ = some (Uj) ∧ wz.cell? ⟨w.heap.size + 1, 7, none⟩ = some (Uf) ∧ wz.cell? ⟨w.heap.size + 1, 8, none⟩ = some (Ua) ∧ wz.cell? ⟨w.heap.size + 1, 9, none⟩ = some (Us) ∧ wz.cell? ⟨w.heap.size + 1, 10, none⟩ = some (Ut)) := Lib.hid (fun wz hb => by
      have q := (HOLD.out wz (bt HB5.out (Nat.le_refl _) hb)).1.2.2.2.1
      exact ⟨q.cell 0, q.cell 1, q.cell 2, q.cell 3, q.cell 4, q.cell 5, q.cell 6, q.cell 7, q.cell 8, q.cell 9, q.cell 10⟩)
    have HQ3 : Hid (∀ wz, Below w5.heap.size w5 wz → wz.cell? ⟨w1.heap.size, 0, none⟩ = some (.int .i64 m) ∧ wz.cell? ⟨w1.heap.size, 1, none⟩ = some (.slice i1 i2 i3) ∧ wz.cell? ⟨w1.heap.size, 2, none⟩ = some (.slice l1 l2 l3) ∧ wz.cell? ⟨w1.heap.size, 3, none⟩ = some (.slice o1 o2 o3) ∧ wz.cell? ⟨w1.heap.size, 4, none⟩ = some (.slice b1 b2 b3) ∧ wz.cell? ⟨w1.heap.size, 5, none⟩ = some (.slice d1 d2 d3) ∧ wz.cell? ⟨w1.heap.size, 6, none⟩ = some (.slice j1 j2 j3) ∧ wz.cell? ⟨w1.heap.size, 7, none⟩ = some (.slice f1 f2 f3) ∧ wz.cell? ⟨w1.heap.size, 8, none⟩ = some (.slice a1 a2 a3) ∧ wz.cell? ⟨w1.heap.size, 9, none⟩ = some (.slice s1 s2 s3) ∧ wz.cell? ⟨w1.heap.size, 10, none⟩ = some (.slice t1 t2 t3)) := Lib.hid (fun wz hb => by
      have q := (HOLD.out wz (bt HB5.out (Nat.le_refl _) hb)).2.2
      exact ⟨q.cell 0, q.cell 1, q.cell 2, q.cell 3, q.cell 4, q.cell 5, q.cell 6, q.cell 7, q.cell 8, q.cell 9, q.cell 10⟩)
    have HQ4 : Hid (∀ wz, Below w5.heap.size w5 wz → wz.cell? ⟨x6, 0, none⟩ = some (.int .i64 m) ∧ wz.cell? ⟨x6, 1, none⟩ = some (Y1.i) ∧ wz.cell? ⟨x6, 2, none⟩ = some (Y1.l) ∧ wz.cell? ⟨x6, 3, none⟩ = some (Y1.o) ∧ wz.cell? ⟨x6, 4, none⟩ = some (Y1.b) ∧ wz.cell? ⟨x6, 5, none⟩ = some (Y1.c) ∧ wz.cell? ⟨x6, 6, none⟩ = some (Y1.j) ∧ wz.cell? ⟨x6, 7, none⟩ = some (Y1.f) ∧ wz.cell? ⟨x6, 8, none⟩ = some (Y1.a) ∧ wz.cell? ⟨x6, 9, none⟩ = some (Y1.s) ∧ wz.cell? ⟨x6, 10, none⟩ = some (Y1.t)) := Lib.hid (fun wz hb => by
      have q := HL67.out.1.below hb HL67.out.1.lt
      exact ⟨q.cell 0, q.cell 1, q.cell 2, q.cell 3, q.cell 4, q.cell 5, q.cell 6, q.cell 7, q.cell 8, q.cell 9, q.cell 10⟩)
    have HQ5 : Hid (∀ wz, Below w5.heap.size w5 wz → wz.cell? ⟨x7, 0, none⟩ = some (.int .i64 m) ∧ wz.cell? ⟨x7, 1, none⟩ = some (Y2.i) ∧ wz.cell? ⟨x7, 2, none⟩ = some (Y2.l) ∧ wz.cell? ⟨x7, 3, none⟩ = some (Y2.o) ∧ wz.cell? ⟨x7, 4, none⟩ = some (Y2.b) ∧ wz.cell? ⟨x7, 5, none⟩ = some (Y2.c) ∧ wz.cell? ⟨x7, 6, none⟩ = some (Y2.j) ∧ wz.cell? ⟨x7, 7, none⟩ = some (Y2.f) ∧ wz.cell? ⟨x7, 8, none⟩ = some (Y2.a) ∧ wz.cell? ⟨x7, 9, none⟩ = some (Y2.s) ∧ wz.cell? ⟨x7, 10, none⟩ = some (Y2.t)) := Lib.hid (fun wz hb => by
      have q := HL67.out.2.below hb HL67.out.2.lt
      exact ⟨q.cell 0, q.cell 1, q.cell 2, q.cell 3, q.cell 4, q.cell 5, q.cell 6, q.cell 7, q.cell 8, q.cell 9, q.cell 10⟩)
    obtain ⟨r0, hr0⟩ : ∃ r0 : Bool, (r0 = true ↔ A = D) := by
      rcases Classical.em (A = D) with e | e
      · exact ⟨true, fun _ => e, fun _ => rfl⟩
      · exact ⟨false, fun h => absurd h (by decide), fun h => absurd h e⟩
    have hrr : ∀ r : Bool, (r = true ↔ A = D) → r = r0 := fun r hr => by
      rcases r with _ | _ <;> rcases r0 with _ | _
      · rfl
      · exact absurd (hr.2 (hr0.1 rfl)) (by decide)
      · exact absurd (hr0.2 (hr.1 rfl)) (by decide)
      · rfl
    have HRR := Lib.hid hrr
    have HS : Hid (∀ wz, Below w5.heap.size w5 wz → Calls Try.prog 22 #[.agg #[.int .i64 m, Y1.i, Y1.l, Y1.o, Y1.b, Y1.c, Y1.j, Y1.f, Y1.a, Y1.s, Y1.t], .agg #[.int .i64 m, Vi, Vl, Vo, Vb, Vc, Vj, Vf, Va, Vs, Vt]] wz fun e w' => e = .returned (.bool true) ∧ Below wz.heap.size wz w') := Lib.hid (fun wz hb => by
      have hq := HOLD.out wz (bt HB5.out (Nat.le_refl _) hb)
      have hs := SameCircuit_any wz Y1 _ A A (HC5.out.1.2.below hb).in_ hq.1.1
      rw [HMM.out] at hs
      refine hs.mono ?_
      rintro e w' ⟨r, rfl, hr, hb'⟩
      exact ⟨by rw [hr.2 rfl], hb'⟩)
    have HT : Hid (∀ wz, Below w5.heap.size w5 wz → Calls Try.prog 25 #[.agg #[.int .i64 m, Y1.i, Y1.l, Y1.o, Y1.b, Y1.c, Y1.j, Y1.f, Y1.a, Y1.s, Y1.t], .agg #[.int .i64 m, .slice i1 i2 i3, .slice l1 l2 l3, .slice o1 o2 o3, .slice b1 b2 b3, .slice d1 d2 d3, .slice j1 j2 j3, .slice f1 f2 f3, .slice a1 a2 a3, .slice s1 s2 s3, .slice t1 t2 t3]] wz fun e w' => e = .returned (.bool true) ∧ Below wz.heap.size wz w') := Lib.hid (fun wz hb => by
      have hq := HOLD.out wz (bt HB5.out (Nat.le_refl _) hb)
      have hs := Same_any wz Y1 _ A A (HC5.out.1.2.below hb).in_ hq.2.1.in_
      rw [HMM.out] at hs
      refine hs.mono ?_
      rintro e w' ⟨r, rfl, hr, hb'⟩
      exact ⟨by rw [hr.2 rfl], hb'⟩)
    have HU : Hid (∀ wz, Below w5.heap.size w5 wz → Calls Try.prog 22 #[.agg #[.int .i64 m, Vi, Vl, Vo, Vb, Vc, Vj, Vf, Va, Vs, Vt], .agg #[.int .i64 n, Ui, Ul, Uo, Ub, Uc, Uj, Uf, Ua, Us, Ut]] wz fun e w' => e = .returned (.bool r0) ∧ Below wz.heap.size wz w') := Lib.hid (fun wz hb => by
      have hq := HOLD.out wz (bt HB5.out (Nat.le_refl _) hb)
      have hs := SameCircuit_any wz _ _ A D hq.1.1 hq.1.2.1
      rw [HMM.out, HNN.out] at hs
      refine hs.mono ?_
      rintro e w' ⟨r, rfl, hr, hb'⟩
      exact ⟨by rw [HRR.out r hr], hb'⟩)
    have HW : Hid (∀ wz, Below w5.heap.size w5 wz → Calls Try.prog 25 #[.agg #[.int .i64 m, Vi, Vl, Vo, Vb, Vc, Vj, Vf, Va, Vs, Vt], .agg #[.int .i64 n, Ui, Ul, Uo, Ub, Uc, Uj, Uf, Ua, Us, Ut]] wz fun e w' => e = .returned (.bool r0) ∧ Below wz.heap.size wz w') := Lib.hid (fun wz hb => by
      have hq := HOLD.out wz (bt HB5.out (Nat.le_refl _) hb)
      have hs := Same_any wz _ _ A D hq.1.1 hq.1.2.1
      rw [HMM.out, HNN.out] at hs
      refine hs.mono ?_
      rintro e w' ⟨r, rfl, hr, hb'⟩
      exact ⟨by rw [HRR.out r hr], hb'⟩)
    clear hr0 hrr HRR
    go_wp2
    rcases r0 with _ | _
    · refine wp_region_quiet (C := fun wz => Below w5.heap.size w5 wz) (by kernel_rfl) (by kernel_rfl) (Below.refl _ _).drew ?_
      simp only
      refine wpQuiet_step (fun K hK => ?_)
      rw [if_pos (by rfl)]
      unfold Oper.quiet
      apply Exists.intro
      refine And.intro (fun wx hWx => ?_) (hK _ ?_)
      · obtain ⟨c0, c1, c2, c3, c4, c5, c6, c7, c8, c9, c10⟩ := HQ4.out wx hWx; go_simp; exact rfl
      clear hK K
      try simp only [Act.put, List.setIfInBounds_toArray, List.set_cons_zero, List.set_cons_succ]
      refine wpQuiet_step (fun K hK => ?_)
      rw [if_pos (by rfl)]
      unfold Oper.quiet
      apply Exists.intro
      refine And.intro (fun wx hWx => ?_) (hK _ ?_)
      · obtain ⟨c0, c1, c2, c3, c4, c5, c6, c7, c8, c9, c10⟩ := HQ1.out wx hWx; go_simp; exact rfl
      clear hK K
      try simp only [Act.put, List.setIfInBounds_toArray, List.set_cons_zero, List.set_cons_succ]
      refine wpQuiet_step (fun K hK => ?_)
      rw [if_pos (by rfl)]
      unfold Oper.quiet
      apply Exists.intro
      refine And.intro (fun wx hWx => ?_) (hK _ ?_)
      · go_simp; go_at_call 22; refine (HS.out _ hWx).mono ?_; rintro e w' ⟨rfl, hb'⟩; exact ⟨rfl, bt hWx (Nat.le_refl _) hb'⟩
      clear hK K
      try simp only [Act.put, List.setIfInBounds_toArray, List.set_cons_zero, List.set_cons_succ]
      refine wpQuiet_step (fun K hK => ?_)
      rw [if_pos (by rfl)]
      unfold Oper.quiet
      apply Exists.intro
      refine And.intro (fun wx hWx => ?_) (hK _ ?_)
      · go_simp; exact rfl
      clear hK K
      try simp only [Act.put, List.setIfInBounds_toArray, List.set_cons_zero, List.set_cons_succ]
      refine wpQuiet_step (fun K hK => ?_)
      rw [if_pos (by rfl)]
      unfold Oper.quiet
      apply Exists.intro
      refine And.intro (fun wx hWx => ?_) (hK _ ?_)
      · go_simp; exact rfl
      clear hK K
      try simp only [Act.put, List.setIfInBounds_toArray, List.set_cons_zero, List.set_cons_succ]
      refine wpQuiet_step (fun K hK => ?_)
      rw [if_pos (by rfl)]
      unfold Oper.quiet
      apply Exists.intro
      refine And.intro (fun wx hWx => ?_) (hK _ ?_)
      · obtain ⟨c0, c1, c2, c3, c4, c5, c6, c7, c8, c9, c10⟩ := HQ1.out wx hWx; go_simp; exact rfl
      clear hK K
      try simp only [Act.put, List.setIfInBounds_toArray, List.set_cons_zero, List.set_cons_succ]
      refine wpQuiet_step (fun K hK => ?_)
      rw [if_pos (by rfl)]
      unfold Oper.quiet
      apply Exists.intro
      refine And.intro (fun wx hWx => ?_) (hK _ ?_)
      · obtain ⟨c0, c1, c2, c3, c4, c5, c6, c7, c8, c9, c10⟩ := HQ2.out wx hWx; go_simp; exact rfl
      clear hK K
      try simp only [Act.put, List.setIfInBounds_toArray, List.set_cons_zero, List.set_cons_succ]
      refine wpQuiet_step (fun K hK => ?_)
      rw [if_pos (by rfl)]
      unfold Oper.quiet
      apply Exists.intro
      refine And.intro (fun wx hWx => ?_) (hK _ ?_)
      · go_simp; go_at_call 25; refine (HW.out _ hWx).mono ?_; rintro e w' ⟨rfl, hb'⟩; exact ⟨rfl, bt hWx (Nat.le_refl _) hb'⟩
      clear hK K
      try simp only [Act.put, List.setIfInBounds_toArray, List.set_cons_zero, List.set_cons_succ]
      refine wpQuiet_step (fun K hK => ?_)
      rw [if_pos (by rfl)]
      unfold Oper.quiet
      apply Exists.intro
      refine And.intro (fun wx hWx => ?_) (hK _ ?_)
      · obtain ⟨c0, c1, c2, c3, c4, c5, c6, c7, c8, c9, c10⟩ := HQ1.out wx hWx; go_simp; exact rfl
      clear hK K
      try simp only [Act.put, List.setIfInBounds_toArray, List.set_cons_zero, List.set_cons_succ]
      refine wpQuiet_step (fun K hK => ?_)
      rw [if_pos (by rfl)]
      unfold Oper.quiet
      apply Exists.intro
      refine And.intro (fun wx hWx => ?_) (hK _ ?_)
      · obtain ⟨c0, c1, c2, c3, c4, c5, c6, c7, c8, c9, c10⟩ := HQ2.out wx hWx; go_simp; exact rfl
      clear hK K
      try simp only [Act.put, List.setIfInBounds_toArray, List.set_cons_zero, List.set_cons_succ]
      refine wpQuiet_step (fun K hK => ?_)
      rw [if_pos (by rfl)]
      unfold Oper.quiet
      apply Exists.intro
      refine And.intro (fun wx hWx => ?_) (hK _ ?_)
      · go_simp; go_at_call 22; refine (HU.out _ hWx).mono ?_; rintro e w' ⟨rfl, hb'⟩; exact ⟨rfl, bt hWx (Nat.le_refl _) hb'⟩
      clear hK K
      try simp only [Act.put, List.setIfInBounds_toArray, List.set_cons_zero, List.set_cons_succ]
      refine wpQuiet_step (fun K hK => ?_)
      rw [if_pos (by rfl)]
      unfold Oper.quiet
      apply Exists.intro
      refine And.intro (fun wx hWx => ?_) (hK _ ?_)
      · go_simp; exact rfl
      clear hK K
      try simp only [Act.put, List.setIfInBounds_toArray, List.set_cons_zero, List.set_cons_succ]
      refine wpQuiet_step (fun K hK => ?_)
      rw [if_pos (by rfl)]
      unfold Oper.quiet
      apply Exists.intro
      refine And.intro (fun wx hWx => ?_) (hK _ ?_)
      · go_simp; exact rfl
      clear hK K
      try simp only [Act.put, List.setIfInBounds_toArray, List.set_cons_zero, List.set_cons_succ]
      refine wpQuiet_step (fun K hK => ?_)
      rw [if_pos (by rfl)]
      unfold Oper.quiet
      apply Exists.intro
      refine And.intro (fun wx hWx => ?_) (hK _ ?_)
      · go_simp; exact rfl
      clear hK K
      try simp only [Act.put, List.setIfInBounds_toArray, List.set_cons_zero, List.set_cons_succ]
      refine wpQuiet_step (fun K hK => ?_)
      rw [if_pos (by rfl)]
      unfold Oper.quiet
      apply Exists.intro
      refine And.intro (fun wx hWx => ?_) (hK _ ?_)
      · obtain ⟨c0, c1, c2, c3, c4, c5, c6, c7, c8, c9, c10⟩ := HQ4.out wx hWx; go_simp; exact rfl
      clear hK K
      try simp only [Act.put, List.setIfInBounds_toArray, List.set_cons_zero, List.set_cons_succ]
      refine wpQuiet_step (fun K hK => ?_)
      rw [if_pos (by rfl)]
      unfold Oper.quiet
      apply Exists.intro
      refine And.intro (fun wx hWx => ?_) (hK _ ?_)
      · obtain ⟨c0, c1, c2, c3, c4, c5, c6, c7, c8, c9, c10⟩ := HQ3.out wx hWx; go_simp; exact rfl
      clear hK K
      try simp only [Act.put, List.setIfInBounds_toArray, List.set_cons_zero, List.set_cons_succ]
      refine wpQuiet_step (fun K hK => ?_)
      rw [if_pos (by rfl)]
      unfold Oper.quiet
      apply Exists.intro
      refine And.intro (fun wx hWx => ?_) (hK _ ?_)
      · go_simp; go_at_call 25; refine (HT.out _ hWx).mono ?_; rintro e w' ⟨rfl, hb'⟩; exact ⟨rfl, bt hWx (Nat.le_refl _) hb'⟩
      clear hK K
      try simp only [Act.put, List.setIfInBounds_toArray, List.set_cons_zero, List.set_cons_succ]
      refine wpQuiet_step (fun K hK => ?_)
      rw [if_pos (by rfl)]
      unfold Oper.quiet
      apply Exists.intro
      refine And.intro (fun wx hWx => ?_) (hK _ ?_)
      · go_simp; exact rfl
      clear hK K
      try simp only [Act.put, List.setIfInBounds_toArray, List.set_cons_zero, List.set_cons_succ]
      refine wpQuiet_step (fun K hK => ?_)
      rw [if_pos (by rfl)]
      unfold Oper.quiet
      apply Exists.intro
      refine And.intro (fun wx hWx => ?_) (hK _ ?_)
      · go_simp; exact rfl
      clear hK K
      try simp only [Act.put, List.setIfInBounds_toArray, List.set_cons_zero, List.set_cons_succ]
      refine wpQuiet_nil ?_
      intro w6 hW6
      have HW6 := Lib.hid hW6
      clear hW6
      clear HS HT HU HW
      have hspl := SpoilCircuit_any wA w6 B1 Y1 A u1 (-7) HC5.out.1.1 (HC5.out.1.2.below HW6.out) (Nat.le_trans HSA.out.2.1.1 HW6.out.size)
      rw [HMM.out] at hspl
      have HSP := Lib.hid hspl
      clear hspl
      obtain ⟨c0, c1, c2, c3, c4, c5, c6, c7, c8, c9, c10⟩ := HQ4.out w6 HW6.out
      go_upto_region 6 with (go_at_call 23; go_loud (refine HSP.out.mono ?_; rintro e w7 ⟨rfl, hk7, ht7⟩))
      clear HSP c0 c1 c2 c3 c4 c5 c6 c7 c8 c9 c10
      have hx7 : Below X.heap.size X w7 := by
        have h1 : Below X.heap.size X w6 := bt HB5.out (Nat.le_refl _) HW6.out
        have h2 := HSA.out.1.1
        exact ⟨hk7.os.trans h1.os, hk7.tape.trans h1.tape, hk7.output.trans h1.output, Nat.le_trans h1.size hk7.size, fun k hk => (hk7.blk k (Nat.lt_of_lt_of_le hk h1.size) (fun h => by omega)).trans (h1.block k hk)⟩
      have hy7 : Cop w7 B2 Y2 u2 A := (HC5.out.2.1).out_ (HC5.out.2.2.below HW6.out) (fun k h1 h2 => hk7.blk k (Nat.lt_of_lt_of_le h2 (Nat.le_trans HSA.out.2.1.2 HW6.out.size)) (fun h => by have := HSA.out.2.2; omega))
      have hb7 : Blk w7 x7 29 #[.int .i64 m, Y2.i, Y2.l, Y2.o, Y2.b, Y2.c, Y2.j, Y2.f, Y2.a, Y2.s, Y2.t] := ht7 _ _ (HL67.out.2.below HW6.out HL67.out.2.lt)
      have HO7 := Lib.hid (HOLD.out w7 hx7)
      have HY7 := Lib.hid hy7
      have HB7 := Lib.hid hb7
      have HX7 := Lib.hid hx7
      clear hk7 ht7 hx7 hy7 hb7 HQ1 HQ2 HQ3 HQ4 HQ5
      have HQ1 : Hid (∀ wz, Below w7.heap.size w7 wz → wz.cell? ⟨w.heap.size, 0, none⟩ = some (.int .i64 m) ∧ wz.cell? ⟨w.heap.size, 1, none⟩ = some (Vi) ∧ wz.cell? ⟨w.heap.size, 2, none⟩ = some (Vl) ∧ wz.cell? ⟨w.heap.size, 3, none⟩ = some (Vo) ∧ wz.cell? ⟨w.heap.size, 4, none⟩ = some (Vb) ∧ wz.cell? ⟨w.heap.size, 5, none⟩ = some (Vc) ∧ wz.cell? ⟨w.heap.size, 6, none⟩ = some (Vj) ∧ wz.cell? ⟨w.heap.size, 7, none⟩ = some (Vf) ∧ wz.cell? ⟨w.heap.size, 8, none⟩ = some (Va) ∧ wz.cell? ⟨w.heap.size, 9, none⟩ = some (Vs) ∧ wz.cell? ⟨w.heap.size, 10, none⟩ = some (Vt)) := Lib.hid (fun wz hb => by
        have q := HO7.out.1.2.2.1.below hb HO7.out.1.2.2.1.lt
        exact ⟨q.cell 0, q.cell 1, q.cell 2, q.cell 3, q.cell 4, q.cell 5, q.cell 6, q.cell 7, q.cell 8, q.cell 9, q.cell 10⟩)
      have HQ3 : Hid (∀ wz, Below w7.heap.size w7 wz → wz.cell? ⟨w1.heap.size, 0, none⟩ = some (.int .i64 m) ∧ wz.cell? ⟨w1.heap.size, 1, none⟩ = some (.slice i1 i2 i3) ∧ wz.cell? ⟨w1.heap.size, 2, none⟩ = some (.slice l1 l2 l3) ∧ wz.cell? ⟨w1.heap.size, 3, none⟩ = some (.slice o1 o2 o3) ∧ wz.cell? ⟨w1.heap.size, 4, none⟩ = some (.slice b1 b2 b3) ∧ wz.cell? ⟨w1.heap.size, 5, none⟩ = some (.slice d1 d2 d3) ∧ wz.cell? ⟨w1.heap.size, 6, none⟩ = some (.slice j1 j2 j3) ∧ wz.cell? ⟨w1.heap.size, 7, none⟩ = some (.slice f1 f2 f3) ∧ wz.cell? ⟨w1.heap.size, 8, none⟩ = some (.slice a1 a2 a3) ∧ wz.cell? ⟨w1.heap.size, 9, none⟩ = some (.slice s1 s2 s3) ∧ wz.cell? ⟨w1.heap.size, 10, none⟩ = some (.slice t1 t2 t3)) := Lib.hid (fun wz hb => by
        have q := HO7.out.2.2.below hb HO7.out.2.2.lt
        exact ⟨q.cell 0, q.cell 1, q.cell 2, q.cell 3, q.cell 4, q.cell 5, q.cell 6, q.cell 7, q.cell 8, q.cell 9, q.cell 10⟩)
      have HQ5 : Hid (∀ wz, Below w7.heap.size w7 wz → wz.cell? ⟨x7, 0, none⟩ = some (.int .i64 m) ∧ wz.cell? ⟨x7, 1, none⟩ = some (Y2.i) ∧ wz.cell? ⟨x7, 2, none⟩ = some (Y2.l) ∧ wz.cell? ⟨x7, 3, none⟩ = some (Y2.o) ∧ wz.cell? ⟨x7, 4, none⟩ = some (Y2.b) ∧ wz.cell? ⟨x7, 5, none⟩ = some (Y2.c) ∧ wz.cell? ⟨x7, 6, none⟩ = some (Y2.j) ∧ wz.cell? ⟨x7, 7, none⟩ = some (Y2.f) ∧ wz.cell? ⟨x7, 8, none⟩ = some (Y2.a) ∧ wz.cell? ⟨x7, 9, none⟩ = some (Y2.s) ∧ wz.cell? ⟨x7, 10, none⟩ = some (Y2.t)) := Lib.hid (fun wz hb => by
        have q := HB7.out.below hb HB7.out.lt
        exact ⟨q.cell 0, q.cell 1, q.cell 2, q.cell 3, q.cell 4, q.cell 5, q.cell 6, q.cell 7, q.cell 8, q.cell 9, q.cell 10⟩)
      have HSM : Hid (∀ wz, Below w7.heap.size w7 wz → Calls Try.prog 22 #[.agg #[.int .i64 m, Y2.i, Y2.l, Y2.o, Y2.b, Y2.c, Y2.j, Y2.f, Y2.a, Y2.s, Y2.t], .agg #[.int .i64 m, Vi, Vl, Vo, Vb, Vc, Vj, Vf, Va, Vs, Vt]] wz fun e w' => e = .returned (.bool true) ∧ Below wz.heap.size wz w') := Lib.hid (fun wz hb => by
        have hs := SameCircuit_any wz Y2 _ A A (HY7.out.below hb).in_ (HO7.out.1.1.below hb)
        rw [HMM.out] at hs
        refine hs.mono ?_
        rintro e w' ⟨r, rfl, hr, hb'⟩
        exact ⟨by rw [hr.2 rfl], hb'⟩)
      have HKC : Hid (∀ wz, Below w7.heap.size w7 wz → Calls Try.prog 16 #[.agg #[.int .i64 m, .slice i1 i2 i3, .slice l1 l2 l3, .slice o1 o2 o3, .slice b1 b2 b3, .slice d1 d2 d3, .slice j1 j2 j3, .slice f1 f2 f3, .slice a1 a2 a3, .slice s1 s2 s3, .slice t1 t2 t3], .agg #[.int .i64 m, Vi, Vl, Vo, Vb, Vc, Vj, Vf, Va, Vs, Vt]] wz fun e w' => e = .returned (.bool true) ∧ Below wz.heap.size wz w') := Lib.hid (fun wz hb => by
        have hs := KeptCircuit_any wz W0.heap.size _ _ A us (HO7.out.2.1.below hb) (HO7.out.1.1.below hb)
        rw [HMM.out] at hs
        exact hs)
      obtain ⟨c0, c1, c2, c3, c4, c5, c6, c7, c8, c9, c10⟩ := HQ1.out w7 (Below.refl _ _)
      obtain ⟨n0, n1, n2, n3, n4, n5, n6, n7, n8, n9, n10⟩ := HQ3.out w7 (Below.refl _ _)
      obtain ⟨y0, y1, y2, y3, y4, y5, y6, y7, y8, y9, y10⟩ := HQ5.out w7 (Below.refl _ _)
      go_wp2_with (first
        | (go_at_call 22; refine (HSM.out _ (Below.refl _ _)).mono ?_; rintro e w8 ⟨rfl, hb8⟩; have HB8 := Lib.hid hb8; clear hb8 c0 c1 c2 c3 c4 c5 c6 c7 c8 c9 c10 n0 n1 n2 n3 n4 n5 n6 n7 n8 n9 n10 y0 y1 y2 y3 y4 y5 y6 y7 y8 y9 y10; obtain ⟨c0, c1, c2, c3, c4, c5, c6, c7, c8, c9, c10⟩ := HQ1.out w8 HB8.out; obtain ⟨n0, n1, n2, n3, n4, n5, n6, n7, n8, n9, n10⟩ := HQ3.out w8 HB8.out)
        | (go_at_call 16; refine (HKC.out _ HB8.out).mono ?_; rintro e w9 ⟨rfl, hb9⟩; have HB9 := Lib.hid (bt HB8.out (Nat.le_refl _) hb9); clear hb9)
        | (go_at_call 17; refine (works_any _).mono ?_; rintro e w10 ⟨rfl, hb10⟩; have HB10 := Lib.hid (bt HB9.out (Nat.le_refl _) hb10); clear hb10))
      go_ret
      exact ⟨rfl, HO7.out.1.2.2.2.2.trans (HB10.out.mono HO7.out.1.2.2.2.2.size)⟩
    · refine wp_region_quiet (C := fun wz => Below w5.heap.size w5 wz) (by kernel_rfl) (by kernel_rfl) (Below.refl _ _).drew ?_
      simp only
      refine wpQuiet_step (fun K hK => ?_)
      rw [if_pos (by rfl)]
      unfold Oper.quiet
      apply Exists.intro
      refine And.intro (fun wx hWx => ?_) (hK _ ?_)
      · obtain ⟨c0, c1, c2, c3, c4, c5, c6, c7, c8, c9, c10⟩ := HQ4.out wx hWx; go_simp; exact rfl
      clear hK K
      try simp only [Act.put, List.setIfInBounds_toArray, List.set_cons_zero, List.set_cons_succ]
      refine wpQuiet_step (fun K hK => ?_)
      rw [if_pos (by rfl)]
      unfold Oper.quiet
      apply Exists.intro
      refine And.intro (fun wx hWx => ?_) (hK _ ?_)
      · obtain ⟨c0, c1, c2, c3, c4, c5, c6, c7, c8, c9, c10⟩ := HQ1.out wx hWx; go_simp; exact rfl
      clear hK K
      try simp only [Act.put, List.setIfInBounds_toArray, List.set_cons_zero, List.set_cons_succ]
      refine wpQuiet_step (fun K hK => ?_)
      rw [if_pos (by rfl)]
      unfold Oper.quiet
      apply Exists.intro
      refine And.intro (fun wx hWx => ?_) (hK _ ?_)
      · go_simp; go_at_call 22; refine (HS.out _ hWx).mono ?_; rintro e w' ⟨rfl, hb'⟩; exact ⟨rfl, bt hWx (Nat.le_refl _) hb'⟩
      clear hK K
      try simp only [Act.put, List.setIfInBounds_toArray, List.set_cons_zero, List.set_cons_succ]
      refine wpQuiet_step (fun K hK => ?_)
      rw [if_pos (by rfl)]
      unfold Oper.quiet
      apply Exists.intro
      refine And.intro (fun wx hWx => ?_) (hK _ ?_)
      · go_simp; exact rfl
      clear hK K
      try simp only [Act.put, List.setIfInBounds_toArray, List.set_cons_zero, List.set_cons_succ]
      refine wpQuiet_step (fun K hK => ?_)
      rw [if_pos (by rfl)]
      unfold Oper.quiet
      apply Exists.intro
      refine And.intro (fun wx hWx => ?_) (hK _ ?_)
      · go_simp; exact rfl
      clear hK K
      try simp only [Act.put, List.setIfInBounds_toArray, List.set_cons_zero, List.set_cons_succ]
      refine wpQuiet_step (fun K hK => ?_)
      rw [if_pos (by rfl)]
      unfold Oper.quiet
      apply Exists.intro
      refine And.intro (fun wx hWx => ?_) (hK _ ?_)
      · obtain ⟨c0, c1, c2, c3, c4, c5, c6, c7, c8, c9, c10⟩ := HQ1.out wx hWx; go_simp; exact rfl
      clear hK K
      try simp only [Act.put, List.setIfInBounds_toArray, List.set_cons_zero, List.set_cons_succ]
      refine wpQuiet_step (fun K hK => ?_)
      rw [if_pos (by rfl)]
      unfold Oper.quiet
      apply Exists.intro
      refine And.intro (fun wx hWx => ?_) (hK _ ?_)
      · obtain ⟨c0, c1, c2, c3, c4, c5, c6, c7, c8, c9, c10⟩ := HQ2.out wx hWx; go_simp; exact rfl
      clear hK K
      try simp only [Act.put, List.setIfInBounds_toArray, List.set_cons_zero, List.set_cons_succ]
      refine wpQuiet_step (fun K hK => ?_)
      rw [if_pos (by rfl)]
      unfold Oper.quiet
      apply Exists.intro
      refine And.intro (fun wx hWx => ?_) (hK _ ?_)
      · go_simp; go_at_call 25; refine (HW.out _ hWx).mono ?_; rintro e w' ⟨rfl, hb'⟩; exact ⟨rfl, bt hWx (Nat.le_refl _) hb'⟩
      clear hK K
      try simp only [Act.put, List.setIfInBounds_toArray, List.set_cons_zero, List.set_cons_succ]
      refine wpQuiet_step (fun K hK => ?_)
      rw [if_pos (by rfl)]
      unfold Oper.quiet
      apply Exists.intro
      refine And.intro (fun wx hWx => ?_) (hK _ ?_)
      · obtain ⟨c0, c1, c2, c3, c4, c5, c6, c7, c8, c9, c10⟩ := HQ1.out wx hWx; go_simp; exact rfl
      clear hK K
      try simp only [Act.put, List.setIfInBounds_toArray, List.set_cons_zero, List.set_cons_succ]
      refine wpQuiet_step (fun K hK => ?_)
      rw [if_pos (by rfl)]
      unfold Oper.quiet
      apply Exists.intro
      refine And.intro (fun wx hWx => ?_) (hK _ ?_)
      · obtain ⟨c0, c1, c2, c3, c4, c5, c6, c7, c8, c9, c10⟩ := HQ2.out wx hWx; go_simp; exact rfl
      clear hK K
      try simp only [Act.put, List.setIfInBounds_toArray, List.set_cons_zero, List.set_cons_succ]
      refine wpQuiet_step (fun K hK => ?_)
      rw [if_pos (by rfl)]
      unfold Oper.quiet
      apply Exists.intro
      refine And.intro (fun wx hWx => ?_) (hK _ ?_)
      · go_simp; go_at_call 22; refine (HU.out _ hWx).mono ?_; rintro e w' ⟨rfl, hb'⟩; exact ⟨rfl, bt hWx (Nat.le_refl _) hb'⟩
      clear hK K
      try simp only [Act.put, List.setIfInBounds_toArray, List.set_cons_zero, List.set_cons_succ]
      refine wpQuiet_step (fun K hK => ?_)
      rw [if_pos (by rfl)]
      unfold Oper.quiet
      apply Exists.intro
      refine And.intro (fun wx hWx => ?_) (hK _ ?_)
      · go_simp; exact rfl
      clear hK K
      try simp only [Act.put, List.setIfInBounds_toArray, List.set_cons_zero, List.set_cons_succ]
      refine wpQuiet_step (fun K hK => ?_)
      rw [if_pos (by rfl)]
      unfold Oper.quiet
      apply Exists.intro
      refine And.intro (fun wx hWx => ?_) (hK _ ?_)
      · go_simp; exact rfl
      clear hK K
      try simp only [Act.put, List.setIfInBounds_toArray, List.set_cons_zero, List.set_cons_succ]
      refine wpQuiet_step (fun K hK => ?_)
      rw [if_pos (by rfl)]
      unfold Oper.quiet
      apply Exists.intro
      refine And.intro (fun wx hWx => ?_) (hK _ ?_)
      · go_simp; exact rfl
      clear hK K
      try simp only [Act.put, List.setIfInBounds_toArray, List.set_cons_zero, List.set_cons_succ]
      refine wpQuiet_step (fun K hK => ?_)
      rw [if_pos (by rfl)]
      unfold Oper.quiet
      apply Exists.intro
      refine And.intro (fun wx hWx => ?_) (hK _ ?_)
      · obtain ⟨c0, c1, c2, c3, c4, c5, c6, c7, c8, c9, c10⟩ := HQ4.out wx hWx; go_simp; exact rfl
      clear hK K
      try simp only [Act.put, List.setIfInBounds_toArray, List.set_cons_zero, List.set_cons_succ]
      refine wpQuiet_step (fun K hK => ?_)
      rw [if_pos (by rfl)]
      unfold Oper.quiet
      apply Exists.intro
      refine And.intro (fun wx hWx => ?_) (hK _ ?_)
      · obtain ⟨c0, c1, c2, c3, c4, c5, c6, c7, c8, c9, c10⟩ := HQ3.out wx hWx; go_simp; exact rfl
      clear hK K
      try simp only [Act.put, List.setIfInBounds_toArray, List.set_cons_zero, List.set_cons_succ]
      refine wpQuiet_step (fun K hK => ?_)
      rw [if_pos (by rfl)]
      unfold Oper.quiet
      apply Exists.intro
      refine And.intro (fun wx hWx => ?_) (hK _ ?_)
      · go_simp; go_at_call 25; refine (HT.out _ hWx).mono ?_; rintro e w' ⟨rfl, hb'⟩; exact ⟨rfl, bt hWx (Nat.le_refl _) hb'⟩
      clear hK K
      try simp only [Act.put, List.setIfInBounds_toArray, List.set_cons_zero, List.set_cons_succ]
      refine wpQuiet_step (fun K hK => ?_)
      rw [if_pos (by rfl)]
      unfold Oper.quiet
      apply Exists.intro
      refine And.intro (fun wx hWx => ?_) (hK _ ?_)
      · go_simp; exact rfl
      clear hK K
      try simp only [Act.put, List.setIfInBounds_toArray, List.set_cons_zero, List.set_cons_succ]
      refine wpQuiet_step (fun K hK => ?_)
      rw [if_pos (by rfl)]
      unfold Oper.quiet
      apply Exists.intro
      refine And.intro (fun wx hWx => ?_) (hK _ ?_)
      · go_simp; exact rfl
      clear hK K
      try simp only [Act.put, List.setIfInBounds_toArray, List.set_cons_zero, List.set_cons_succ]
      refine wpQuiet_nil ?_
      intro w6 hW6
      have HW6 := Lib.hid hW6
      clear hW6
      clear HS HT HU HW
      have hspl := SpoilCircuit_any wA w6 B1 Y1 A u1 (-7) HC5.out.1.1 (HC5.out.1.2.below HW6.out) (Nat.le_trans HSA.out.2.1.1 HW6.out.size)
      rw [HMM.out] at hspl
      have HSP := Lib.hid hspl
      clear hspl
      obtain ⟨c0, c1, c2, c3, c4, c5, c6, c7, c8, c9, c10⟩ := HQ4.out w6 HW6.out
      go_upto_region 6 with (go_at_call 23; go_loud (refine HSP.out.mono ?_; rintro e w7 ⟨rfl, hk7, ht7⟩))
      clear HSP c0 c1 c2 c3 c4 c5 c6 c7 c8 c9 c10
      have hx7 : Below X.heap.size X w7 := by
        have h1 : Below X.heap.size X w6 := bt HB5.out (Nat.le_refl _) HW6.out
        have h2 := HSA.out.1.1
        exact ⟨hk7.os.trans h1.os, hk7.tape.trans h1.tape, hk7.output.trans h1.output, Nat.le_trans h1.size hk7.size, fun k hk => (hk7.blk k (Nat.lt_of_lt_of_le hk h1.size) (fun h => by omega)).trans (h1.block k hk)⟩
      have hy7 : Cop w7 B2 Y2 u2 A := (HC5.out.2.1).out_ (HC5.out.2.2.below HW6.out) (fun k h1 h2 => hk7.blk k (Nat.lt_of_lt_of_le h2 (Nat.le_trans HSA.out.2.1.2 HW6.out.size)) (fun h => by have := HSA.out.2.2; omega))
      have hb7 : Blk w7 x7 29 #[.int .i64 m, Y2.i, Y2.l, Y2.o, Y2.b, Y2.c, Y2.j, Y2.f, Y2.a, Y2.s, Y2.t] := ht7 _ _ (HL67.out.2.below HW6.out HL67.out.2.lt)
      have HO7 := Lib.hid (HOLD.out w7 hx7)
      have HY7 := Lib.hid hy7
      have HB7 := Lib.hid hb7
      have HX7 := Lib.hid hx7
      clear hk7 ht7 hx7 hy7 hb7 HQ1 HQ2 HQ3 HQ4 HQ5
      have HQ1 : Hid (∀ wz, Below w7.heap.size w7 wz → wz.cell? ⟨w.heap.size, 0, none⟩ = some (.int .i64 m) ∧ wz.cell? ⟨w.heap.size, 1, none⟩ = some (Vi) ∧ wz.cell? ⟨w.heap.size, 2, none⟩ = some (Vl) ∧ wz.cell? ⟨w.heap.size, 3, none⟩ = some (Vo) ∧ wz.cell? ⟨w.heap.size, 4, none⟩ = some (Vb) ∧ wz.cell? ⟨w.heap.size, 5, none⟩ = some (Vc) ∧ wz.cell? ⟨w.heap.size, 6, none⟩ = some (Vj) ∧ wz.cell? ⟨w.heap.size, 7, none⟩ = some (Vf) ∧ wz.cell? ⟨w.heap.size, 8, none⟩ = some (Va) ∧ wz.cell? ⟨w.heap.size, 9, none⟩ = some (Vs) ∧ wz.cell? ⟨w.heap.size, 10, none⟩ = some (Vt)) := Lib.hid (fun wz hb => by
        have q := HO7.out.1.2.2.1.below hb HO7.out.1.2.2.1.lt
        exact ⟨q.cell 0, q.cell 1, q.cell 2, q.cell 3, q.cell 4, q.cell 5, q.cell 6, q.cell 7, q.cell 8, q.cell 9, q.cell 10⟩)
      have HQ3 : Hid (∀ wz, Below w7.heap.size w7 wz → wz.cell? ⟨w1.heap.size, 0, none⟩ = some (.int .i64 m) ∧ wz.cell? ⟨w1.heap.size, 1, none⟩ = some (.slice i1 i2 i3) ∧ wz.cell? ⟨w1.heap.size, 2, none⟩ = some (.slice l1 l2 l3) ∧ wz.cell? ⟨w1.heap.size, 3, none⟩ = some (.slice o1 o2 o3) ∧ wz.cell? ⟨w1.heap.size, 4, none⟩ = some (.slice b1 b2 b3) ∧ wz.cell? ⟨w1.heap.size, 5, none⟩ = some (.slice d1 d2 d3) ∧ wz.cell? ⟨w1.heap.size, 6, none⟩ = some (.slice j1 j2 j3) ∧ wz.cell? ⟨w1.heap.size, 7, none⟩ = some (.slice f1 f2 f3) ∧ wz.cell? ⟨w1.heap.size, 8, none⟩ = some (.slice a1 a2 a3) ∧ wz.cell? ⟨w1.heap.size, 9, none⟩ = some (.slice s1 s2 s3) ∧ wz.cell? ⟨w1.heap.size, 10, none⟩ = some (.slice t1 t2 t3)) := Lib.hid (fun wz hb => by
        have q := HO7.out.2.2.below hb HO7.out.2.2.lt
        exact ⟨q.cell 0, q.cell 1, q.cell 2, q.cell 3, q.cell 4, q.cell 5, q.cell 6, q.cell 7, q.cell 8, q.cell 9, q.cell 10⟩)
      have HQ5 : Hid (∀ wz, Below w7.heap.size w7 wz → wz.cell? ⟨x7, 0, none⟩ = some (.int .i64 m) ∧ wz.cell? ⟨x7, 1, none⟩ = some (Y2.i) ∧ wz.cell? ⟨x7, 2, none⟩ = some (Y2.l) ∧ wz.cell? ⟨x7, 3, none⟩ = some (Y2.o) ∧ wz.cell? ⟨x7, 4, none⟩ = some (Y2.b) ∧ wz.cell? ⟨x7, 5, none⟩ = some (Y2.c) ∧ wz.cell? ⟨x7, 6, none⟩ = some (Y2.j) ∧ wz.cell? ⟨x7, 7, none⟩ = some (Y2.f) ∧ wz.cell? ⟨x7, 8, none⟩ = some (Y2.a) ∧ wz.cell? ⟨x7, 9, none⟩ = some (Y2.s) ∧ wz.cell? ⟨x7, 10, none⟩ = some (Y2.t)) := Lib.hid (fun wz hb => by
        have q := HB7.out.below hb HB7.out.lt
        exact ⟨q.cell 0, q.cell 1, q.cell 2, q.cell 3, q.cell 4, q.cell 5, q.cell 6, q.cell 7, q.cell 8, q.cell 9, q.cell 10⟩)
      have HSM : Hid (∀ wz, Below w7.heap.size w7 wz → Calls Try.prog 22 #[.agg #[.int .i64 m, Y2.i, Y2.l, Y2.o, Y2.b, Y2.c, Y2.j, Y2.f, Y2.a, Y2.s, Y2.t], .agg #[.int .i64 m, Vi, Vl, Vo, Vb, Vc, Vj, Vf, Va, Vs, Vt]] wz fun e w' => e = .returned (.bool true) ∧ Below wz.heap.size wz w') := Lib.hid (fun wz hb => by
        have hs := SameCircuit_any wz Y2 _ A A (HY7.out.below hb).in_ (HO7.out.1.1.below hb)
        rw [HMM.out] at hs
        refine hs.mono ?_
        rintro e w' ⟨r, rfl, hr, hb'⟩
        exact ⟨by rw [hr.2 rfl], hb'⟩)
      have HKC : Hid (∀ wz, Below w7.heap.size w7 wz → Calls Try.prog 16 #[.agg #[.int .i64 m, .slice i1 i2 i3, .slice l1 l2 l3, .slice o1 o2 o3, .slice b1 b2 b3, .slice d1 d2 d3, .slice j1 j2 j3, .slice f1 f2 f3, .slice a1 a2 a3, .slice s1 s2 s3, .slice t1 t2 t3], .agg #[.int .i64 m, Vi, Vl, Vo, Vb, Vc, Vj, Vf, Va, Vs, Vt]] wz fun e w' => e = .returned (.bool true) ∧ Below wz.heap.size wz w') := Lib.hid (fun wz hb => by
        have hs := KeptCircuit_any wz W0.heap.size _ _ A us (HO7.out.2.1.below hb) (HO7.out.1.1.below hb)
        rw [HMM.out] at hs
        exact hs)
      obtain ⟨c0, c1, c2, c3, c4, c5, c6, c7, c8, c9, c10⟩ := HQ1.out w7 (Below.refl _ _)
      obtain ⟨n0, n1, n2, n3, n4, n5, n6, n7, n8, n9, n10⟩ := HQ3.out w7 (Below.refl _ _)
      obtain ⟨y0, y1, y2, y3, y4, y5, y6, y7, y8, y9, y10⟩ := HQ5.out w7 (Below.refl _ _)
      go_wp2_with (first
        | (go_at_call 22; refine (HSM.out _ (Below.refl _ _)).mono ?_; rintro e w8 ⟨rfl, hb8⟩; have HB8 := Lib.hid hb8; clear hb8 c0 c1 c2 c3 c4 c5 c6 c7 c8 c9 c10 n0 n1 n2 n3 n4 n5 n6 n7 n8 n9 n10 y0 y1 y2 y3 y4 y5 y6 y7 y8 y9 y10; obtain ⟨c0, c1, c2, c3, c4, c5, c6, c7, c8, c9, c10⟩ := HQ1.out w8 HB8.out; obtain ⟨n0, n1, n2, n3, n4, n5, n6, n7, n8, n9, n10⟩ := HQ3.out w8 HB8.out)
        | (go_at_call 16; refine (HKC.out _ HB8.out).mono ?_; rintro e w9 ⟨rfl, hb9⟩; have HB9 := Lib.hid (bt HB8.out (Nat.le_refl _) hb9); clear hb9)
        | (go_at_call 17; refine (works_any _).mono ?_; rintro e w10 ⟨rfl, hb10⟩; have HB10 := Lib.hid (bt HB9.out (Nat.le_refl _) hb10); clear hb10))
      go_ret
      exact ⟨rfl, HO7.out.1.2.2.2.2.trans (HB10.out.mono HO7.out.1.2.2.2.2.size)⟩
end Go.Proofs.Ytfcjdfjobneeeaa

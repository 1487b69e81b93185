/- Hash: HashBuilds: both Builds of any circuit; the walk of the statement. -/
import Derived.Test.YtilbgopdciiadaaHshZ
import Derived.Test.YtilbgopdciiadaaHshD
import Derived.Test.YtilbgopdciiadaaLendC
import Derived.Test.YtilbgopdciiadaaKeptC
import Derived.Test.YtilbgopdciiadaaSpoilW
import Derived.Test.YtilbgopdciiadaaSameD
import Derived.Test.YtilbgopdciiadaaArgR
namespace Go.Proofs.Ytilbgopdciiadaa
open Go.RowKit Go.Maps

theorem newRow (w : World) (old new : Array Value) (t : TypeId) : Below w.heap.size w ((w.alloc (.cells old t)).setRow w.heap.size new) ∧ ((w.alloc (.cells old t)).setRow w.heap.size new).heap[w.heap.size]? = some (.cells new t (0, 0)) ∧ ((w.alloc (.cells old t)).setRow w.heap.size new).heap.size = w.heap.size + 1 := by
  have h1 : Below w.heap.size w (w.alloc (.cells old t)) := (Below.refl _ _).alloc (Nat.le_refl _) _
  have h2 : (w.alloc (.cells old t)).heap[w.heap.size]? = some (.cells old t (0, 0)) := Blk.new w t old
  exact ⟨⟨h1.os, h1.tape, h1.output, by rw [size_setRow]; exact h1.size, fun k hk => (setRow_other _ _ _ _ (by omega)).trans (h1.block k hk)⟩, setRow_heap _ _ _ _ _ _ h2, by rw [size_setRow]; simp⟩
def zCH : Circ := ⟨0, [], [], [], [], [], [], [], [], [], []⟩
def noVH : CV := ⟨.slice none 0 0, .slice none 0 0, .slice none 0 0, .slice none 0 0, .slice none 0 0, .slice none 0 0, .slice none 0 0, .slice none 0 0, .slice none 0 0, .slice none 0 0⟩
theorem own_nilH (w : World) (B : Nat) (t : TypeId) (k : Nat) : w.ownsRow B t k (.slice none 0 0) 0 [] := ⟨by simp, .inl ⟨rfl, rfl⟩⟩
theorem noVH_cop (w : World) (B : Nat) : Cop w B noVH [] zCH := by
  refine ⟨⟨fun p hp => ?_, fun i j a b hij hi hj g hg => ?_⟩, rfl, own_nilH _ _ _ _, own_nilH _ _ _ _, own_nilH _ _ _ _, own_nilH _ _ _ _, own_nilH _ _ _ _⟩
  · have : p.1 = .slice none 0 0 ∧ p.2 = [] := by
      simp [five, noVH, zCH] at hp
      rw [hp]; exact ⟨rfl, rfl⟩
    obtain ⟨v, L⟩ := p
    obtain ⟨rfl, rfl⟩ := this
    exact own_nilH _ _ _ _
  · have hm := List.mem_of_getElem? hi
    simp [five, noVH, zCH] at hm
    rw [hm] at hg
    simp [Value.ownBlock] at hg
theorem noVH_copB (w : World) (B : Nat) : CopB w B zCH [] noVH :=
  ⟨own_nilH _ _ _ _, own_nilH _ _ _ _, own_nilH _ _ _ _, own_nilH _ _ _ _, own_nilH _ _ _ _, ⟨rfl, own_nilH _ _ _ _, fun i u zs hu _ => by simp at hu⟩, own_nilH _ _ _ _, own_nilH _ _ _ _, own_nilH _ _ _ _, own_nilH _ _ _ _⟩
theorem Cop.outH {w w' : World} {B : Nat} {V : CV} {us : List Value} {C : Circ} (h : Cop w B V us C) (ho : ∀ k, B ≤ k → k < w.heap.size → w'.heap[k]? = w.heap[k]?) : Cop w' B V us C := by
  have hne : ∀ {t : TypeId} {k n : Nat} {v : Value} {xs : List Value}, w.ownsRow B t k v n xs → w'.ownsRow B t k v n xs := fun h1 =>
    own_of_block h1 fun g hg => ho g (World.ownsRow.lt h1 g hg).1 (World.ownsRow.lt h1 g hg).2
  exact ⟨⟨fun p hp => hne (h.fam.own p hp), h.fam.apart⟩, h.ul, hne h.j, hne h.l, hne h.a, hne h.s, hne h.t⟩
theorem CopB.outH {w w' : World} {B : Nat} {V : CV} {us : List Value} {C : Circ} (h : CopB w B C us V) (ho : ∀ k, B ≤ k → k < w.heap.size → w'.heap[k]? = w.heap[k]?) : CopB w' B C us V := by
  have hne : ∀ {t : TypeId} {k n : Nat} {v : Value} {xs : List Value}, w.ownsRow B t k v n xs → w'.ownsRow B t k v n xs := fun h1 =>
    own_of_block h1 fun g hg => ho g (World.ownsRow.lt h1 g hg).1 (World.ownsRow.lt h1 g hg).2
  exact ⟨hne h.i, hne h.l, hne h.o, hne h.b, hne h.c, ⟨h.j.ul, hne h.j.own, fun i u zs hu hz => hne (h.j.each i u zs hu hz)⟩, hne h.f, hne h.a, hne h.s, hne h.t⟩
theorem copB_one {w : World} {B : Nat} {V : CV} {us : List Value} {X : Circ} {mx : Int} (h : CopB w B X us V) : (V.cells mx).all (·.oneCell') = true := by
  obtain ⟨_, _, e0⟩ := own_slice_k h.i
  obtain ⟨_, _, e1⟩ := own_slice_k h.l
  obtain ⟨_, _, e2⟩ := own_slice_k h.o
  obtain ⟨_, _, e3⟩ := own_slice_k h.b
  obtain ⟨_, _, e4⟩ := own_slice_k h.c
  obtain ⟨_, _, e5⟩ := own_slice_k h.j.own
  obtain ⟨_, _, e6⟩ := own_slice_k h.f
  obtain ⟨_, _, e7⟩ := own_slice_k h.a
  obtain ⟨_, _, e8⟩ := own_slice_k h.s
  obtain ⟨_, _, e9⟩ := own_slice_k h.t
  simp only [CV.cells]
  rw [e0, e1, e2, e3, e4, e5, e6, e7, e8, e9]
  simp [Value.oneCell']
theorem in_one {w : World} {V : CV} {X : Circ} {mx : Int} (h : X.In w V) : (V.cells mx).all (·.oneCell') = true := by
  obtain ⟨_, _, e0, _⟩ := h.i
  obtain ⟨_, _, e1, _⟩ := h.l
  obtain ⟨_, _, e2, _⟩ := h.o
  obtain ⟨_, _, e3, _⟩ := h.b
  obtain ⟨_, _, e4, _⟩ := h.c
  obtain ⟨_, _, e5, _⟩ := h.j.at_
  obtain ⟨_, _, e6, _⟩ := h.f
  obtain ⟨_, _, e7, _⟩ := h.a
  obtain ⟨_, _, e8, _⟩ := h.s
  obtain ⟨_, _, e9, _⟩ := h.t
  simp only [CV.cells]
  rw [e0, e1, e2, e3, e4, e5, e6, e7, e8, e9]
  simp [Value.oneCell']
set_option maxHeartbeats 4000000 in
set_option maxRecDepth 100000 in
theorem rBuild_ok (w : World) (V : CV) (C : Circ) (O : List Int) (h : C.In w V) (ok : C.Ok) (rm : C.Room) (htn : ∀ s ∈ C.comments, s.size ≤ maxLen) (hz : (checkR C).2 = 0) (hO : IsOrd C O) :
    Calls Try.prog 9 #[V.val C.max] w fun e w' => Below w.heap.size w w' ∧ ∃ V' us g, e = .returned (.tuple #[CV.val V' (bldX C O).max, .slice (some ⟨g, 0, none⟩) (C.max.toNat + 1) (C.max.toNat + 1), .int .i64 0]) ∧
      w.heap.size ≤ g ∧ CopB w' w.heap.size (bldX C O) us V' ∧ Nums w' g (bldM C O) := by
  obtain ⟨W0, hW0⟩ : ∃ W0, (w.alloc (.cells (V.cells C.max) 29)).alloc (.cells #[.int .i64 0, .slice none 0 0, .slice none 0 0, .slice none 0 0, .slice none 0 0, .slice none 0 0, .slice none 0 0, .slice none 0 0, .slice none 0 0, .slice none 0 0, .slice none 0 0] 29) = W0 := ⟨_, rfl⟩
  have HB0 : Hid (Below w.heap.size w W0) := Lib.hid (by rw [← hW0]; exact ((Below.refl w.heap.size w).alloc (Nat.le_refl _) _).alloc (by simp) _)
  have HS0 : Hid (W0.heap.size = w.heap.size + 1 + 1) := Lib.hid (by rw [← hW0]; simp)
  have HALL : Hid (∀ wz, Below W0.heap.size W0 wz → wz.heap[w.heap.size]? = some (.cells (V.cells C.max) 29 (0, 0)) ∧ wz.heap[w.heap.size + 1]? = some (.cells #[.int .i64 0, .slice none 0 0, .slice none 0 0, .slice none 0 0, .slice none 0 0, .slice none 0 0, .slice none 0 0, .slice none 0 0, .slice none 0 0, .slice none 0 0, .slice none 0 0] 29 (0, 0)) ∧ C.In wz V ∧ Below w.heap.size w wz) := Lib.hid (fun wz hb => by
    have h1 : Blk W0 w.heap.size 29 (V.cells C.max) := by rw [← hW0]; exact (Blk.new w _ _).alloc _
    have h2 : Blk W0 (w.heap.size + 1) 29 #[.int .i64 0, .slice none 0 0, .slice none 0 0, .slice none 0 0, .slice none 0 0, .slice none 0 0, .slice none 0 0, .slice none 0 0, .slice none 0 0, .slice none 0 0, .slice none 0 0] := by
      rw [← hW0]
      have := Blk.new (w.alloc (.cells (V.cells C.max) 29)) 29 #[.int .i64 0, .slice none 0 0, .slice none 0 0, .slice none 0 0, .slice none 0 0, .slice none 0 0, .slice none 0 0, .slice none 0 0, .slice none 0 0, .slice none 0 0, .slice none 0 0]
      simpa using this
    exact ⟨h1.below hb h1.lt, h2.below hb h2.lt, (h.below HB0.out).below hb, HB0.out.trans (hb.mono HB0.out.size)⟩)
  have hord := rOrder_any W0 _ C (h.below HB0.out) ok htn
  rw [hz] at hord
  have HORD := Lib.hid hord
  have HW0 := Lib.hid hW0
  have HC0 := Lib.hid (HALL.out W0 (Below.refl _ _))
  have HB := Lib.hid (fun (wx : World) (gv : Value) (hx : C.In wx V) (hg : RowE 1 encI wx gv O) => rBuild0_any wx V C gv O hx hg rm hz hO)
  have HHO := Lib.hid hO
  clear h ok rm htn hz hO hord hW0
  go_enter Try.func9, Try.ntmps9
  go_upto_region 1 with (fail)
  rw [HW0.out]
  go_upto_region 4 with (first
    | (refine wpList_load_row rfl 29 (.tmp 1) rfl w.heap.size rfl 29 (V.cells C.max) (0, 0) _ HC0.out.1 Try.underlying29 rfl (by kernel_rfl) ?_)
    | (go_at_call 39; refine HORD.out.mono ?_; rintro e w1 ⟨hb1, vg, out, rfl, _, hok⟩; obtain ⟨ho1, hg1, hl1⟩ := hok rfl; obtain rfl := HHO.out.same hg1 hl1; have HB1 := Lib.hid hb1; have HGV := Lib.hid (own_rowe lenI (by rw [flat_ints]; exact ho1) : RowE 1 encI w1 vg out); have HC1 := Lib.hid (HALL.out w1 hb1); clear hb1 ho1 hg1 hl1 hok))
  have HBL := Lib.hid (HB.out w1 vg HC1.out.2.2.1 HGV.out)
  clear HB
  go_upto_region 5 with (first
    | (refine wpList_load_row rfl 29 (.tmp 1) rfl w.heap.size rfl 29 (V.cells C.max) (0, 0) _ HC1.out.1 Try.underlying29 rfl (by kernel_rfl) ?_)
    | (go_at_call 40; refine HBL.out.mono ?_; rintro e w2 ⟨hb2, V', us, g, rfl, hg, hcop, hnum⟩; have HB2 := Lib.hid hb2; have HGG := Lib.hid hg; have HCOP := Lib.hid hcop; have HNUM := Lib.hid hnum; have HN2 := Lib.hid (Blk.new w2 29 #[.int .i64 0, .slice none 0 0, .slice none 0 0, .slice none 0 0, .slice none 0 0, .slice none 0 0, .slice none 0 0, .slice none 0 0, .slice none 0 0, .slice none 0 0, .slice none 0 0]); have HONE : Hid ((V'.cells (bldX C out).max).all (·.oneCell') = true) := Lib.hid (copB_one hcop); clear hb2 hg hcop hnum)
    | (refine wpList_store_row rfl 29 (.tmp 7) (.tmp 22) rfl w2.heap.size (V'.cells (bldX C out).max) rfl rfl 29 _ HN2.out (by kernel_rfl) rfl HONE.out ?_))
  have hnr := newRow w2 #[.int .i64 0, .slice none 0 0, .slice none 0 0, .slice none 0 0, .slice none 0 0, .slice none 0 0, .slice none 0 0, .slice none 0 0, .slice none 0 0, .slice none 0 0, .slice none 0 0] (V'.cells (bldX C out).max) 29
  obtain ⟨W3, hW3⟩ : ∃ W3, (w2.alloc (.cells #[.int .i64 0, .slice none 0 0, .slice none 0 0, .slice none 0 0, .slice none 0 0, .slice none 0 0, .slice none 0 0, .slice none 0 0, .slice none 0 0, .slice none 0 0, .slice none 0 0] 29)).setRow w2.heap.size (V'.cells (bldX C out).max) = W3 := ⟨_, rfl⟩
  rw [hW3] at hnr
  rw [hW3]
  have HNR := Lib.hid hnr
  have HBA : Hid (Below W0.heap.size W0 W3) := Lib.hid (bt (bt HB1.out (Nat.le_refl _) HB2.out) (Nat.le_refl _) hnr.1)
  have HRES := Lib.hid (HALL.out W3 HBA.out).2.1
  clear hW3 hnr HN2
  go_wp2_with (first
    | (refine wpList_load_row rfl 29 (.tmp 7) rfl w2.heap.size rfl 29 (V'.cells (bldX C out).max) (0, 0) _ HNR.out.2.1 Try.underlying29 rfl (by kernel_rfl) ?_)
    | (refine wpList_store_row rfl 29 (.tmp 2) (.tmp 24) rfl (w.heap.size + 1) (V'.cells (bldX C out).max) rfl rfl 29 _ HRES.out (by kernel_rfl) rfl HONE.out ?_))
  have hw9 : Blk (W3.setRow (w.heap.size + 1) (V'.cells (bldX C out).max)) (w.heap.size + 1) 29 (V'.cells (bldX C out).max) := setRow_heap W3 (w.heap.size + 1) _ _ _ _ HRES.out
  refine bodyPost_ret (results_cell_two (fn := Try.f9) (p := 2) (q := 3) (r := 4) rfl _ _ (w.heap.size + 1) 29 (V'.cells (bldX C out).max) (0, 0) _ rfl hw9 Try.underlying29 rfl (by kernel_rfl) (.slice (some ⟨g, 0, none⟩) (C.max.toNat + 1) (C.max.toNat + 1)) (.int .i64 0) rfl rfl) rfl ?_
  have hoth : ∀ k, k ≠ w.heap.size + 1 → (W3.setRow (w.heap.size + 1) (V'.cells (bldX C out).max)).heap[k]? = W3.heap[k]? := fun k hk => setRow_other _ _ _ _ hk
  have hbel := (HALL.out W3 HBA.out).2.2.2
  have hs0 := HS0.out
  have hs1 := HB1.out.size
  have hg := HGG.out
  have hs2 := HB2.out.size
  have hcb := (HCOP.out.below HNR.out.1).outH (w' := W3.setRow (w.heap.size + 1) (V'.cells (bldX C out).max)) (fun k h1 _ => hoth k (by omega))
  have hbase : ∀ {t : TypeId} {k n : Nat} {v : Value} {xs : List Value}, (W3.setRow (w.heap.size + 1) (V'.cells (bldX C out).max)).ownsRow w1.heap.size t k v n xs → (W3.setRow (w.heap.size + 1) (V'.cells (bldX C out).max)).ownsRow w.heap.size t k v n xs := fun hr => own_base hr (by omega)
  have hgl := Blk.lt HNUM.out
  refine ⟨⟨hbel.os, hbel.tape, hbel.output, by rw [size_setRow]; exact hbel.size, fun k hk => (hoth _ (by omega)).trans (hbel.block k hk)⟩, V', us, g, rfl, by omega, ⟨hbase hcb.i, hbase hcb.l, hbase hcb.o, hbase hcb.b, hbase hcb.c, ⟨hcb.j.ul, hbase hcb.j.own, fun i u zs hu hz => hbase (hcb.j.each i u zs hu hz)⟩, hbase hcb.f, hbase hcb.a, hbase hcb.s, hbase hcb.t⟩, ?_⟩
  exact (hoth g (by omega)).trans ((HNR.out.1.block g hgl).trans HNUM.out)
set_option maxHeartbeats 2000000 in
set_option maxRecDepth 100000 in
theorem rBuild_no (w : World) (V : CV) (C : Circ) (h : C.In w V) (ok : C.Ok) (htn : ∀ s ∈ C.comments, s.size ≤ maxLen) (hz : (checkR C).2 ≠ 0) :
    Calls Try.prog 9 #[V.val C.max] w fun e w' => Below w.heap.size w w' ∧ e = .returned (.tuple #[.agg #[.int .i64 0, .slice none 0 0, .slice none 0 0, .slice none 0 0, .slice none 0 0, .slice none 0 0, .slice none 0 0, .slice none 0 0, .slice none 0 0, .slice none 0 0, .slice none 0 0], .slice none 0 0, .int .i64 (checkR C).2]) := by
  obtain ⟨m, hmm⟩ : ∃ m, C.max = m := ⟨_, rfl⟩
  obtain ⟨Vi, Vl, Vo, Vb, Vc, Vj, Vf, Va, Vs, Vt⟩ := V
  obtain ⟨W0, hW0⟩ : ∃ W0, W0 = (w.alloc (.cells #[.int .i64 m, Vi, Vl, Vo, Vb, Vc, Vj, Vf, Va, Vs, Vt] 29)).alloc (.cells #[.int .i64 0, .slice none 0 0, .slice none 0 0, .slice none 0 0, .slice none 0 0, .slice none 0 0, .slice none 0 0, .slice none 0 0, .slice none 0 0, .slice none 0 0, .slice none 0 0] 29) := ⟨_, rfl⟩
  have HB0 : Hid (Below w.heap.size w W0) := Lib.hid (by rw [hW0]; exact ((Below.refl w.heap.size w).alloc (Nat.le_refl _) _).alloc (by simp) _)
  have h1 : Blk W0 (w.heap.size + 1) 29 #[.int .i64 0, .slice none 0 0, .slice none 0 0, .slice none 0 0, .slice none 0 0, .slice none 0 0, .slice none 0 0, .slice none 0 0, .slice none 0 0, .slice none 0 0, .slice none 0 0] := by
    rw [hW0]
    have := Blk.new (w.alloc (.cells #[.int .i64 m, Vi, Vl, Vo, Vb, Vc, Vj, Vf, Va, Vs, Vt] 29)) 29 #[.int .i64 0, .slice none 0 0, .slice none 0 0, .slice none 0 0, .slice none 0 0, .slice none 0 0, .slice none 0 0, .slice none 0 0, .slice none 0 0, .slice none 0 0, .slice none 0 0]
    simpa using this
  have hord := rOrder_any W0 _ C (h.below HB0.out) ok htn
  obtain ⟨r, hr⟩ : ∃ r, (checkR C).2 = r := ⟨_, rfl⟩
  rw [hr, hmm] at hord
  rw [hr] at hz ⊢
  rw [hmm]
  have hq : (r != 0) = true := by simpa using hz
  have HZ := Lib.hid hz
  have HORD := Lib.hid hord
  have H1 := Lib.hid h1
  have HW0 := Lib.hid hW0
  clear h ok hz hr hmm h1 hord hW0
  rw [HW0.out] at HORD
  go_enter Try.func9, Try.ntmps9
  go_upto_region 3 with (go_at_call 39; go_loud (refine HORD.out.mono ?_; rw [← HW0.out]; rintro e w1 ⟨hb1, vg, out, rfl, _, _⟩; have HB1 := Lib.hid hb1; have hbz := H1.out.below hb1 H1.out.lt; have HBZ := Lib.hid hbz; clear hb1 hbz))
  obtain ⟨z0, z1, z2, z3, z4, z5, z6, z7, z8, z9, z10⟩ := box_of HBZ.out
  obtain ⟨y0, y1, y2, y3, y4, y5, y6, y7, y8, y9, y10⟩ := blk_frozen11 HBZ.out
  have hR9 : Blk (set11 w1 (w.heap.size + 1) (.int .i64 0) (.slice none 0 0) (.slice none 0 0) (.slice none 0 0) (.slice none 0 0) (.slice none 0 0) (.slice none 0 0) (.slice none 0 0) (.slice none 0 0) (.slice none 0 0) (.slice none 0 0)) (w.heap.size + 1) 29 #[.int .i64 0, .slice none 0 0, .slice none 0 0, .slice none 0 0, .slice none 0 0, .slice none 0 0, .slice none 0 0, .slice none 0 0, .slice none 0 0, .slice none 0 0, .slice none 0 0] := set11_blk HBZ.out (.int .i64 0) (.slice none 0 0) (.slice none 0 0) (.slice none 0 0) (.slice none 0 0) (.slice none 0 0) (.slice none 0 0) (.slice none 0 0) (.slice none 0 0) (.slice none 0 0) (.slice none 0 0)
  have hB9 : Below w.heap.size w (set11 w1 (w.heap.size + 1) (.int .i64 0) (.slice none 0 0) (.slice none 0 0) (.slice none 0 0) (.slice none 0 0) (.slice none 0 0) (.slice none 0 0) (.slice none 0 0) (.slice none 0 0) (.slice none 0 0) (.slice none 0 0)) := set11_below (bt HB0.out (Nat.le_refl _) HB1.out) (Nat.le_succ _) (.int .i64 0) (.slice none 0 0) (.slice none 0 0) (.slice none 0 0) (.slice none 0 0) (.slice none 0 0) (.slice none 0 0) (.slice none 0 0) (.slice none 0 0) (.slice none 0 0) (.slice none 0 0)
  obtain ⟨wq, hwq⟩ : ∃ wq, wq = (set11 w1 (w.heap.size + 1) (.int .i64 0) (.slice none 0 0) (.slice none 0 0) (.slice none 0 0) (.slice none 0 0) (.slice none 0 0) (.slice none 0 0) (.slice none 0 0) (.slice none 0 0) (.slice none 0 0) (.slice none 0 0)) := ⟨_, rfl⟩
  rw [← hwq] at hR9 hB9
  unfold set11 at hwq
  have HR9 := Lib.hid hR9
  have HB9 := Lib.hid hB9
  have HWQ := Lib.hid hwq
  clear hR9 hB9 hwq
  go_wp2
  rw [← HWQ.out]
  refine bodyPost_ret (results_cell_two (fn := Try.f9) (p := 2) (q := 3) (r := 4) rfl _ wq (w.heap.size + 1) 29 #[.int .i64 0, .slice none 0 0, .slice none 0 0, .slice none 0 0, .slice none 0 0, .slice none 0 0, .slice none 0 0, .slice none 0 0, .slice none 0 0, .slice none 0 0, .slice none 0 0] (0, 0) _ rfl HR9.out Try.underlying29 rfl (by kernel_rfl) _ _ rfl rfl) rfl ?_
  exact ⟨HB9.out, rfl⟩
def dX (C : Circ) (O : List Int) : Circ := if (checkR C).2 = 0 then bldX C O else zCH
def dXM (C : Circ) (O : List Int) : List Int := if (checkR C).2 = 0 then bldM C O else []
theorem bldM_len {C : Circ} {O : List Int} (hz : (checkR C).2 = 0) (hO : IsOrd C O) : (bldM C O).length = C.max.toNat + 1 := (tellI_of (fine_of hz) hO).len
theorem Build_all (w : World) (V : CV) (C : Circ) (O : List Int) (h : C.In w V) (ok : C.Ok) (rm : C.Room) (hO : (checkR C).2 = 0 → IsOrd C O) :
    Calls Try.prog 8 #[V.val C.max] w fun e w' => Below w.heap.size w w' ∧ ∃ V' us vm B', e = .returned (.tuple #[CV.val V' (dX C O).max, vm, .int .i64 (checkR C).2]) ∧
      w.heap.size ≤ B' ∧ Cop w' B' V' us (dX C O) ∧ (∀ g, vm.ownBlock = some g → g < B') ∧ w'.ownsRow w.heap.size 3 1 vm (dXM C O).length ((dXM C O).map (Value.int .i64)) := by
  by_cases hz : (checkR C).2 = 0
  · refine (Build_ok w V C O h ok rm hz (hO hz)).mono ?_
    rintro e w' ⟨hb, V', us, g, B', he, h1, h2, h3, h4, h5⟩
    refine ⟨hb, V', us, .slice (some ⟨g, 0, none⟩) (C.max.toNat + 1) (C.max.toNat + 1), B', ?_, h3, ?_, ?_, ?_⟩
    · rw [he, hz]; unfold dX; rw [if_pos hz]
    · unfold dX; rw [if_pos hz]; exact h4
    · intro g' hg'
      cases hg'
      exact h2
    · unfold dXM; rw [if_pos hz]
      have hl := bldM_len hz (hO hz)
      have := nums_own (B := w.heap.size) h5 h1 (by rw [hl]; have := (right_of hz).m1; simp only [maxLen]; omega)
      rw [hl] at this ⊢
      exact this
  · refine (Build_no w V C h ok hz).mono ?_
    rintro e w' ⟨hb, he⟩
    refine ⟨hb, noVH, [], .slice none 0 0, w.heap.size, ?_, Nat.le_refl _, ?_, fun g hg => by simp [Value.ownBlock] at hg, ?_⟩
    · rw [he]; unfold dX; rw [if_neg hz]; rfl
    · unfold dX; rw [if_neg hz]; exact noVH_cop _ _
    · unfold dXM; rw [if_neg hz]; exact own_nilH _ _ _ _
theorem rBuild_all (w : World) (V : CV) (C : Circ) (O : List Int) (h : C.In w V) (ok : C.Ok) (rm : C.Room) (htn : ∀ s ∈ C.comments, s.size ≤ maxLen) (hO : (checkR C).2 = 0 → IsOrd C O) :
    Calls Try.prog 9 #[V.val C.max] w fun e w' => Below w.heap.size w w' ∧ ∃ V' us vm, e = .returned (.tuple #[CV.val V' (dX C O).max, vm, .int .i64 (checkR C).2]) ∧
      CopB w' w.heap.size (dX C O) us V' ∧ w'.ownsRow w.heap.size 3 1 vm (dXM C O).length ((dXM C O).map (Value.int .i64)) := by
  by_cases hz : (checkR C).2 = 0
  · refine (rBuild_ok w V C O h ok rm htn hz (hO hz)).mono ?_
    rintro e w' ⟨hb, V', us, g, he, h1, h4, h5⟩
    refine ⟨hb, V', us, .slice (some ⟨g, 0, none⟩) (C.max.toNat + 1) (C.max.toNat + 1), ?_, ?_, ?_⟩
    · rw [he, hz]; unfold dX; rw [if_pos hz]
    · unfold dX; rw [if_pos hz]; exact h4
    · unfold dXM; rw [if_pos hz]
      have hl := bldM_len hz (hO hz)
      have := nums_own (B := w.heap.size) h5 h1 (by rw [hl]; have := (right_of hz).m1; simp only [maxLen]; omega)
      rw [hl] at this ⊢
      exact this
  · refine (rBuild_no w V C h ok htn hz).mono ?_
    rintro e w' ⟨hb, he⟩
    refine ⟨hb, noVH, [], .slice none 0 0, ?_, ?_, ?_⟩
    · rw [he]; unfold dX; rw [if_neg hz]; rfl
    · unfold dX; rw [if_neg hz]; exact noVH_copB _ _
    · unfold dXM; rw [if_neg hz]; exact own_nilH _ _ _ _

set_option maxHeartbeats 20000000 in
set_option maxRecDepth 100000 in
theorem hashBuilds_walk (w : World) (V : CV) (C : Circ) (h : C.In w V) (ok : C.Ok) (rm : C.Room ∧ C.Reach) :
    Calls Try.prog 3 #[V.val C.max] w fun e w' => e = .returned (.bool true) ∧ Below w.heap.size w w' := by
  obtain ⟨rm, re⟩ := rm
  obtain ⟨O, hO⟩ := ord_ex h ok
  have hb0 := (Below.refl w.heap.size w).alloc (Nat.le_refl _) (.cells (V.cells C.max) 29)
  have hbx0 := Blk.new w 29 (V.cells C.max)
  obtain ⟨W1, hW1⟩ : ∃ W1, w.alloc (.cells (V.cells C.max) 29) = W1 := ⟨_, rfl⟩
  have hs1 : W1.heap.size = w.heap.size + 1 := by rw [← hW1]; simp
  rw [hW1] at hb0 hbx0
  have HW1 := Lib.hid hW1
  have HALL0 : Hid (∀ wz, Below W1.heap.size W1 wz → wz.heap[w.heap.size]? = some (.cells (V.cells C.max) 29 (0, 0)) ∧ C.In wz V ∧ Below w.heap.size w wz) := Lib.hid (fun wz hb => by
    have h2 := bt hb0 (Nat.le_refl _) hb
    exact ⟨hbx0.below hb hbx0.lt, h.below h2, h2⟩)
  have HLEND := Lib.hid (LendCircuit_any W1 V C (HALL0.out W1 (Below.refl _ _)).2.1 rm ⟨re.i, re.o, re.b, re.c, re.f, re.l, re.a⟩)
  have HP := Lib.hid (fun (wx : World) (U : CV) (hx : C.In wx U) => Build_all wx U C O hx ok rm hO)
  have HR := Lib.hid (fun (wx : World) (hx : C.In wx V) => rBuild_all wx V C O hx ok rm re.t hO)
  have HKEPT := Lib.hid (fun (wx : World) (B : Nat) (U : CV) (us : List Value) (hl : LentC wx B C us U) (hx : C.In wx V) => KeptCircuit_any wx B U V C us hl hx)
  have HWK := Lib.hid (fun wz => worksH_any wz)
  obtain ⟨D, hD⟩ : ∃ D, dX C O = D := ⟨_, rfl⟩
  obtain ⟨MM, hM⟩ : ∃ M, dXM C O = M := ⟨_, rfl⟩
  obtain ⟨r, hr⟩ : ∃ r, (checkR C).2 = r := ⟨_, rfl⟩
  rw [hD, hM, hr] at HP HR
  obtain ⟨mc, hmc⟩ : ∃ m, C.max = m := ⟨_, rfl⟩
  rw [hmc] at HLEND HP HR HKEPT HALL0 HW1 ⊢
  obtain ⟨mx, hmx⟩ : ∃ m, D.max = m := ⟨_, rfl⟩
  rw [hmx] at HP HR
  have HMX := Lib.hid hmx
  have HS1 := Lib.hid hs1
  have HC0 := Lib.hid (HALL0.out W1 (Below.refl _ _))
  have HSC : Hid (∀ (wx : World) (V1 V2 : CV), D.In wx V1 → D.In wx V2 → Calls Try.prog 10 #[V1.val mx, V2.val mx] wx fun e w' => e = .returned (.bool true) ∧ Below wx.heap.size wx w') := Lib.hid (fun wx V1 V2 h1 h2 => by
    have hs := SameCircuit_any wx V1 V2 D D h1 h2
    rw [HMX.out] at hs
    refine hs.mono ?_
    rintro e w' ⟨r, rfl, hr, hb'⟩
    exact ⟨by rw [hr.2 rfl], hb'⟩)
  clear h ok rm re hO hb0 hbx0 hW1 hs1 hD hM hr hmc hmx
  go_enter Try.func3, Try.ntmps3
  go_upto_region 1 with (fail)
  rw [HW1.out]
  go_upto_region 2 with (first
    | (refine wpList_load_row rfl 29 (.tmp 1) rfl w.heap.size rfl 29 (V.cells mc) (0, 0) _ HC0.out.1 Try.underlying29 rfl (by kernel_rfl) ?_)
    | (go_at_call 7; refine HLEND.out.mono ?_; rintro e w1 ⟨U, us, rfl, hb1, hl1⟩; have HB1 := Lib.hid hb1; have HL1 := Lib.hid hl1; have HN1 := Lib.hid (Blk.new w1 29 #[.int .i64 0, .slice none 0 0, .slice none 0 0, .slice none 0 0, .slice none 0 0, .slice none 0 0, .slice none 0 0, .slice none 0 0, .slice none 0 0, .slice none 0 0, .slice none 0 0]); have HO1 : Hid ((U.cells mc).all (·.oneCell') = true) := Lib.hid (in_one hl1.in_); clear hb1 hl1)
    | (refine wpList_store_row rfl 29 (.tmp 3) (.tmp 14) rfl w1.heap.size (U.cells mc) rfl rfl 29 _ HN1.out (by kernel_rfl) rfl HO1.out ?_))
  have hnr := newRow w1 #[.int .i64 0, .slice none 0 0, .slice none 0 0, .slice none 0 0, .slice none 0 0, .slice none 0 0, .slice none 0 0, .slice none 0 0, .slice none 0 0, .slice none 0 0, .slice none 0 0] (U.cells mc) 29
  obtain ⟨W2, hX⟩ : ∃ X, (w1.alloc (.cells #[.int .i64 0, .slice none 0 0, .slice none 0 0, .slice none 0 0, .slice none 0 0, .slice none 0 0, .slice none 0 0, .slice none 0 0, .slice none 0 0, .slice none 0 0, .slice none 0 0] 29)).setRow w1.heap.size (U.cells mc) = X := ⟨_, rfl⟩
  rw [hX] at hnr
  rw [hX]
  have HNR1 := Lib.hid hnr
  clear hX hnr
  have HALL1 : Hid (∀ wz, Below W2.heap.size W2 wz → (wz.heap[w.heap.size]? = some (.cells (V.cells mc) 29 (0, 0)) ∧ C.In wz V ∧ Below w.heap.size w wz) ∧ wz.heap[w1.heap.size]? = some (.cells (U.cells mc) 29 (0, 0)) ∧ LentC wz W1.heap.size C us U) := Lib.hid (fun wz hb => by
    have h1 := bt HNR1.out.1 (Nat.le_refl _) hb
    exact ⟨HALL0.out wz (bt HB1.out (Nat.le_refl _) h1), (hb.block _ (by have := HNR1.out.2.2; omega)).trans HNR1.out.2.1, HL1.out.below h1⟩)
  have HC1 := Lib.hid (HALL1.out W2 (Below.refl _ _))
  clear HL1 HN1 HLEND
  go_upto_region 3 with (first
    | (refine wpList_load_row rfl 29 (.tmp 3) rfl w1.heap.size rfl 29 (U.cells mc) (0, 0) _ HC1.out.2.1 Try.underlying29 rfl (by kernel_rfl) ?_)
    | (go_at_call 8; refine (HP.out W2 U HC1.out.2.2.in_).mono ?_; rintro e wA ⟨hbA, PV, pu, vm, B1, rfl, hB1, hcp, hvm, hown⟩; have HBA := Lib.hid hbA; have HB1x := Lib.hid hB1; have HCP := Lib.hid hcp; have HVM := Lib.hid hvm; have HOW := Lib.hid hown; have HNA := Lib.hid (Blk.new wA 29 #[.int .i64 0, .slice none 0 0, .slice none 0 0, .slice none 0 0, .slice none 0 0, .slice none 0 0, .slice none 0 0, .slice none 0 0, .slice none 0 0, .slice none 0 0, .slice none 0 0]); have HOA : Hid ((PV.cells mx).all (·.oneCell') = true) := Lib.hid (cop_one hcp); clear hbA hB1 hcp hvm hown)
    | (refine wpList_store_row rfl 29 (.tmp 4) (.tmp 18) rfl wA.heap.size (PV.cells mx) rfl rfl 29 _ HNA.out (by kernel_rfl) rfl HOA.out ?_))
  have hnr := newRow wA #[.int .i64 0, .slice none 0 0, .slice none 0 0, .slice none 0 0, .slice none 0 0, .slice none 0 0, .slice none 0 0, .slice none 0 0, .slice none 0 0, .slice none 0 0, .slice none 0 0] (PV.cells mx) 29
  obtain ⟨W4, hX⟩ : ∃ X, (wA.alloc (.cells #[.int .i64 0, .slice none 0 0, .slice none 0 0, .slice none 0 0, .slice none 0 0, .slice none 0 0, .slice none 0 0, .slice none 0 0, .slice none 0 0, .slice none 0 0, .slice none 0 0] 29)).setRow wA.heap.size (PV.cells mx) = X := ⟨_, rfl⟩
  rw [hX] at hnr
  rw [hX]
  have HNR2 := Lib.hid hnr
  clear hX hnr
  have HALL2 : Hid (∀ wz, Below W4.heap.size W4 wz → Below W2.heap.size W2 wz ∧ wz.heap[wA.heap.size]? = some (.cells (PV.cells mx) 29 (0, 0)) ∧ Cop wz B1 PV pu D ∧ wz.ownsRow W2.heap.size 3 1 vm MM.length (MM.map (Value.int .i64))) := Lib.hid (fun wz hb => by
    have h1 := bt HNR2.out.1 (Nat.le_refl _) hb
    exact ⟨bt HBA.out (Nat.le_refl _) h1, (hb.block _ (by have := HNR2.out.2.2; omega)).trans HNR2.out.2.1, HCP.out.below h1, own_below HOW.out h1⟩)
  have HC2 := Lib.hid (HALL1.out W4 (HALL2.out W4 (Below.refl _ _)).1)
  go_upto_region 4 with (first
    | (refine wpList_load_row rfl 29 (.tmp 3) rfl w1.heap.size rfl 29 (U.cells mc) (0, 0) _ HC2.out.2.1 Try.underlying29 rfl (by kernel_rfl) ?_)
    | (go_at_call 8; refine (HP.out W4 U HC2.out.2.2.in_).mono ?_; rintro e wB ⟨hbB, QV, qu, vq, B2, rfl, hB2, hcq, _, _⟩; have HBB := Lib.hid hbB; have HB2x := Lib.hid hB2; have HCQ := Lib.hid hcq; have HNB := Lib.hid (Blk.new wB 29 #[.int .i64 0, .slice none 0 0, .slice none 0 0, .slice none 0 0, .slice none 0 0, .slice none 0 0, .slice none 0 0, .slice none 0 0, .slice none 0 0, .slice none 0 0, .slice none 0 0]); have HOB : Hid ((QV.cells mx).all (·.oneCell') = true) := Lib.hid (cop_one hcq); clear hbB hB2 hcq)
    | (refine wpList_store_row rfl 29 (.tmp 7) (.tmp 24) rfl wB.heap.size (QV.cells mx) rfl rfl 29 _ HNB.out (by kernel_rfl) rfl HOB.out ?_))
  have hnr := newRow wB #[.int .i64 0, .slice none 0 0, .slice none 0 0, .slice none 0 0, .slice none 0 0, .slice none 0 0, .slice none 0 0, .slice none 0 0, .slice none 0 0, .slice none 0 0, .slice none 0 0] (QV.cells mx) 29
  obtain ⟨W6, hX⟩ : ∃ X, (wB.alloc (.cells #[.int .i64 0, .slice none 0 0, .slice none 0 0, .slice none 0 0, .slice none 0 0, .slice none 0 0, .slice none 0 0, .slice none 0 0, .slice none 0 0, .slice none 0 0, .slice none 0 0] 29)).setRow wB.heap.size (QV.cells mx) = X := ⟨_, rfl⟩
  rw [hX] at hnr
  rw [hX]
  have HNR3 := Lib.hid hnr
  clear hX hnr
  have HALL3 : Hid (∀ wz, Below W6.heap.size W6 wz → Below W4.heap.size W4 wz ∧ wz.heap[wB.heap.size]? = some (.cells (QV.cells mx) 29 (0, 0)) ∧ Cop wz B2 QV qu D) := Lib.hid (fun wz hb => by
    have h1 := bt HNR3.out.1 (Nat.le_refl _) hb
    exact ⟨bt HBB.out (Nat.le_refl _) h1, (hb.block _ (by have := HNR3.out.2.2; omega)).trans HNR3.out.2.1, HCQ.out.below h1⟩)
  have HC3 := Lib.hid (HALL1.out W6 (HALL2.out W6 (HALL3.out W6 (Below.refl _ _)).1).1)
  go_upto_region 5 with (first
    | (refine wpList_load_row rfl 29 (.tmp 1) rfl w.heap.size rfl 29 (V.cells mc) (0, 0) _ HC3.out.1.1 Try.underlying29 rfl (by kernel_rfl) ?_)
    | (go_at_call 9; refine (HR.out W6 HC3.out.1.2.1).mono ?_; rintro e wC ⟨hbC, SV, su, vs, rfl, hcs, hos⟩; have HBC := Lib.hid hbC; have HCS := Lib.hid hcs; have HOSV := Lib.hid hos; have HNC := Lib.hid (Blk.new wC 29 #[.int .i64 0, .slice none 0 0, .slice none 0 0, .slice none 0 0, .slice none 0 0, .slice none 0 0, .slice none 0 0, .slice none 0 0, .slice none 0 0, .slice none 0 0, .slice none 0 0]); have HOC : Hid ((SV.cells mx).all (·.oneCell') = true) := Lib.hid (copB_one hcs); clear hbC hcs hos)
    | (refine wpList_store_row rfl 29 (.tmp 10) (.tmp 30) rfl wC.heap.size (SV.cells mx) rfl rfl 29 _ HNC.out (by kernel_rfl) rfl HOC.out ?_))
  have hnr := newRow wC #[.int .i64 0, .slice none 0 0, .slice none 0 0, .slice none 0 0, .slice none 0 0, .slice none 0 0, .slice none 0 0, .slice none 0 0, .slice none 0 0, .slice none 0 0, .slice none 0 0] (SV.cells mx) 29
  obtain ⟨W8, hX⟩ : ∃ X, (wC.alloc (.cells #[.int .i64 0, .slice none 0 0, .slice none 0 0, .slice none 0 0, .slice none 0 0, .slice none 0 0, .slice none 0 0, .slice none 0 0, .slice none 0 0, .slice none 0 0, .slice none 0 0] 29)).setRow wC.heap.size (SV.cells mx) = X := ⟨_, rfl⟩
  rw [hX] at hnr
  rw [hX]
  have HNR4 := Lib.hid hnr
  clear hX hnr
  have HALL4 : Hid (∀ wz, Below W8.heap.size W8 wz → Below W6.heap.size W6 wz ∧ wz.heap[wC.heap.size]? = some (.cells (SV.cells mx) 29 (0, 0)) ∧ CopB wz W6.heap.size D su SV ∧ wz.ownsRow W6.heap.size 3 1 vs MM.length (MM.map (Value.int .i64))) := Lib.hid (fun wz hb => by
    have h1 := bt HNR4.out.1 (Nat.le_refl _) hb
    exact ⟨bt HBC.out (Nat.le_refl _) h1, (hb.block _ (by have := HNR4.out.2.2; omega)).trans HNR4.out.2.1, HCS.out.below h1, own_below HOSV.out h1⟩)
  have HTO : Hid (∀ wz, Below W8.heap.size W8 wz → Below W6.heap.size W6 wz ∧ Below W4.heap.size W4 wz ∧ Below W2.heap.size W2 wz) := Lib.hid (fun wz hb => by
    have h1 := (HALL4.out wz hb).1
    have h2 := (HALL3.out wz h1).1
    exact ⟨h1, h2, (HALL2.out wz h2).1⟩)
  have HC4 := Lib.hid (HALL4.out W8 (Below.refl _ _))
  have HC4a := Lib.hid (HALL2.out W8 (HTO.out W8 (Below.refl _ _)).2.1)
  have hq0 : (r != r) = false := by simp
  go_upto_region 7 with (first
    | (refine wpList_load_row rfl 29 (.tmp 4) rfl wA.heap.size rfl 29 (PV.cells mx) (0, 0) _ HC4a.out.2.1 Try.underlying29 rfl (by kernel_rfl) ?_)
    | (refine wpList_load_row rfl 29 (.tmp 10) rfl wC.heap.size rfl 29 (SV.cells mx) (0, 0) _ HC4.out.2.1 Try.underlying29 rfl (by kernel_rfl) ?_)
    | (go_at_call 10; refine (HSC.out W8 PV SV HC4a.out.2.2.1.in_ HC4.out.2.2.1.in_).mono ?_; rintro e w9 ⟨rfl, hb9⟩; have HB9 := Lib.hid hb9; clear hb9)
    | (go_at_call 11; refine (SameInts_any w9 vm vs MM MM (own_rowe lenI (by rw [flat_ints]; exact (HALL2.out w9 (HTO.out w9 HB9.out).2.1).2.2.2)) (own_rowe lenI (by rw [flat_ints]; exact (HALL4.out w9 HB9.out).2.2.2))).mono ?_; rw [decide_eq_true (rfl : MM = MM)]; rintro e w10 ⟨rfl, hb10⟩; have HB10 := Lib.hid (bt HB9.out (Nat.le_refl _) hb10); clear hb10))
  have HC5 := Lib.hid (HALL2.out w10 (HTO.out w10 HB10.out).2.1)
  have hspl := SpoilCircuit_any wA w10 B1 PV D pu (-7) HCP.out HC5.out.2.2.1 (by have h1 := HB10.out.size; have h2 := HNR4.out.2.2; have h3 := HBC.out.size; have h4 := HNR3.out.2.2; have h5 := HBB.out.size; have h6 := HNR2.out.2.2; omega)
  rw [HMX.out] at hspl
  have HSPL := Lib.hid hspl
  clear hspl
  go_upto_region 8 with (first
    | (refine wpList_load_row rfl 29 (.tmp 4) rfl wA.heap.size rfl 29 (PV.cells mx) (0, 0) _ HC5.out.2.1 Try.underlying29 rfl (by kernel_rfl) ?_)
    | (go_at_call 12; refine HSPL.out.mono ?_; rintro e wS ⟨rfl, hk7, ht7⟩; have HK7 := Lib.hid hk7; have HT7 := Lib.hid ht7; have HOS : Hid (wS.ownsRow W2.heap.size 3 1 vm MM.length (MM.map (Value.int .i64))) := Lib.hid (own_of_block HC5.out.2.2.2 fun g hg => hk7.blk g (HC5.out.2.2.2.lt g hg).2 (fun hs => by have := HVM.out g hg; omega)); clear hk7 ht7))
  go_upto_region 9 with (go_at_call 13; refine (SpoilInts_any _ _ _ _ _ _ HOS.out).mono ?_; rintro e wT ⟨rfl, hgr⟩; have HGR := Lib.hid hgr; clear hgr)
  have HFIN : Hid (∀ wz, Below wT.heap.size wT wz → Below W2.heap.size W2 wz ∧ wz.heap[wB.heap.size]? = some (.cells (QV.cells mx) 29 (0, 0)) ∧ Cop wz B2 QV qu D ∧ wz.heap[wC.heap.size]? = some (.cells (SV.cells mx) 29 (0, 0)) ∧ CopB wz W6.heap.size D su SV) := Lib.hid (fun wz hb => by
    have k6 := (HTO.out w10 HB10.out).1
    have k4 := (HTO.out w10 HB10.out).2.1
    have k2 := (HTO.out w10 HB10.out).2.2
    have s1 := HB10.out.size
    have s2 := HNR4.out.2.2
    have s3 := HBC.out.size
    have s4 := HNR3.out.2.2
    have s5 := HBB.out.size
    have s6 := HNR2.out.2.2
    have s7 := HBA.out.size
    have s8 := HB1x.out
    have s9 := HB2x.out
    have hK := HK7.out
    have hG := HGR.out
    have gl : ∀ g, vm.ownBlock = some g → W2.heap.size ≤ g ∧ g < B1 ∧ g < wA.heap.size := fun g hg => ⟨(HOS.out.lt g hg).1, HVM.out g hg, (HOW.out.lt g hg).2⟩
    have far : ∀ k, wA.heap.size ≤ k → k < w10.heap.size → wT.heap[k]? = w10.heap[k]? := fun k h1 h2 => by
      have e1 := hK.blk k h2 (fun hs => by omega)
      have h3 : k < wS.heap.size := Nat.lt_of_lt_of_le h2 hK.size
      exact (hG.block k h3 (fun e => by have := (gl k e.symm).2.2; omega)).trans e1
    have low : Below W2.heap.size W2 wT := by
      have e1 : Below W2.heap.size W2 wS := ⟨hK.os.trans k2.os, hK.tape.trans k2.tape, hK.output.trans k2.output, Nat.le_trans k2.size hK.size, fun k hk => (hK.blk k (by have := k2.size; omega) (fun hs => by omega)).trans (k2.block k hk)⟩
      exact e1.grown hG e1.size (fun k hk => (gl k hk).1)
    have q3 := HALL3.out w10 k6
    have q4 := HALL4.out w10 HB10.out
    have hlB : wB.heap.size < w10.heap.size := by have := HNR3.out.2.2; have := HBC.out.size; omega
    have hlC : wC.heap.size < w10.heap.size := by omega
    have sT : w10.heap.size ≤ wT.heap.size := Nat.le_trans hK.size hG.size
    refine ⟨low.trans (hb.mono low.size), (hb.block _ (by omega)).trans ((far _ (by omega) hlB).trans q3.2.1), (q3.2.2.outH fun k h1 h2 => far k (by omega) h2).below hb, (hb.block _ (by omega)).trans ((far _ (by omega) hlC).trans q4.2.1), (q4.2.2.1.outH fun k h1 h2 => far k (by omega) h2).below hb⟩)
  have HF := Lib.hid (HFIN.out wT (Below.refl _ _))
  go_wp2_with (first
    | (refine wpList_load_row rfl 29 (.tmp 7) rfl wB.heap.size rfl 29 (QV.cells mx) (0, 0) _ HF.out.2.1 Try.underlying29 rfl (by kernel_rfl) ?_)
    | (refine wpList_load_row rfl 29 (.tmp 10) rfl wC.heap.size rfl 29 (SV.cells mx) (0, 0) _ HF.out.2.2.2.1 Try.underlying29 rfl (by kernel_rfl) ?_)
    | (go_at_call 10; refine (HSC.out wT QV SV HF.out.2.2.1.in_ HF.out.2.2.2.2.in_).mono ?_; rintro e w11 ⟨rfl, hb11⟩; have HB11 := Lib.hid hb11; have HF11 := Lib.hid (HALL1.out w11 (HFIN.out w11 hb11).1); obtain ⟨c0, c1, c2, c3, c4, c5, c6, c7, c8, c9, c10⟩ := rbox_of (show Blk w11 w1.heap.size 29 #[.int .i64 mc, U.i, U.l, U.o, U.b, U.c, U.j, U.f, U.a, U.s, U.t] from HF11.out.2.1); obtain ⟨d0, d1, d2, d3, d4, d5, d6, d7, d8, d9, d10⟩ := rbox_of (show Blk w11 w.heap.size 29 #[.int .i64 mc, V.i, V.l, V.o, V.b, V.c, V.j, V.f, V.a, V.s, V.t] from HF11.out.1.1); clear hb11)
    | (go_at_call 14; refine (HKEPT.out w11 _ U us HF11.out.2.2 HF11.out.1.2.1).mono ?_; rintro e w12 ⟨rfl, hb12⟩; have HB12 := Lib.hid (bt HB11.out (Nat.le_refl _) hb12); clear hb12)
    | (go_at_call 15; refine (HWK.out w12).mono ?_; rintro e w13 ⟨rfl, hb13⟩; have HB13 := Lib.hid (bt HB12.out (Nat.le_refl _) hb13); clear hb13))
  go_ret
  exact ⟨rfl, (HALL1.out w13 (HFIN.out w13 HB13.out).1).1.2.2⟩
end Go.Proofs.Ytilbgopdciiadaa

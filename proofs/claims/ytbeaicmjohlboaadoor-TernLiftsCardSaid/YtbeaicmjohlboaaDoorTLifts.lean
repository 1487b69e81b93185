/- The walk of TernLifts: for whatever circuit, rows and literals the statement's Go function answers true, and nothing that was there has turned. -/
import Derived.Test.YtbeaicmjohlboaaDoorTrnX
namespace Go.Proofs.YtbeaicmjohlboaaDoor
open Go.RowKit

theorem trioT_of {w : World} {g : Nat} {t : TypeId} {a b c : Value} (h : Blk w g t #[a, b, c]) : w.cell? ⟨g, 0, none⟩ = some a ∧ w.cell? ⟨g, 1, none⟩ = some b ∧ w.cell? ⟨g, 2, none⟩ = some c := ⟨by rw [h.cell]; rfl, by rw [h.cell]; rfl, by rw [h.cell]; rfl⟩

set_option maxHeartbeats 20000000 in
set_option maxRecDepth 100000 in
theorem ternLifts_walk (w : World) (V : CV) (C : Circ) (K : KV) (k : Kase) (htc : TabC w) (h : C.In w V) (ok : C.Ok) (rm : C.Room ∧ C.Reach) (hk : k.In w K) (hkr : k.Reach) :
    Calls Tryd.prog 5 #[V.val C.max, K.val] w fun e w' => e = .returned (.bool true) ∧ Below w.heap.size w w' := by
  obtain ⟨rm, re⟩ := rm
  obtain ⟨O, hO⟩ := ord_ex h ok
  obtain ⟨Kl, Ki, Ks⟩ := K
  obtain ⟨L, I, S⟩ := k
  obtain ⟨hs, hr, ht⟩ := hk
  obtain ⟨bs, br, bt', h64⟩ := hkr
  simp only at hs hr ht bs br bt' h64
  obtain ⟨sA, sn, sc, hse⟩ := slT_form hs
  obtain ⟨rA, rn, rc, hre⟩ := slT_form hr
  obtain ⟨tA, tn, tc, hte⟩ := slT_form ht
  subst hse hre hte
  obtain ⟨W0, hW0⟩ : ∃ W0, W0 = ((w.alloc (.cells (V.cells C.max) 29)).alloc (.cells #[.slice sA sn sc, .slice rA rn rc, .slice tA tn tc] 45)) := ⟨_, rfl⟩
  have hb0 : Below w.heap.size w W0 := by
    rw [hW0]; exact ((Below.refl w.heap.size w).alloc (Nat.le_refl _) _).alloc (by simp) _
  have hbx0 : Blk W0 w.heap.size 29 (V.cells C.max) := by rw [hW0]; exact (Blk.new w _ _).alloc _
  have hkx0 : Blk W0 (w.heap.size + 1) 45 #[.slice sA sn sc, .slice rA rn rc, .slice tA tn tc] := by
    rw [hW0]
    have := Blk.new (w.alloc (.cells (V.cells C.max) 29)) 45 #[.slice sA sn sc, .slice rA rn rc, .slice tA tn tc]
    rw [show (w.alloc (.cells (V.cells C.max) 29)).heap.size = w.heap.size + 1 by simp] at this
    exact this
  have HLEND := Lib.hid (LendCircuit_any W0 V C (h.below hb0) rm ⟨re.i, re.o, re.b, re.c, re.f, re.l, re.a⟩)
  have HIN0 := Lib.hid (h.below hb0)
  have HB0 := Lib.hid hb0
  have HS0 := Lib.hid hs
  have HR0 := Lib.hid hr
  have HT0 := Lib.hid ht
  have HTC0 := Lib.hid htc
  have HKX0 := Lib.hid hkx0
  obtain ⟨Vi, Vl, Vo, Vb, Vc, Vj, Vf, Va, Vs, Vt⟩ := V
  obtain ⟨m, hmm⟩ : ∃ m, C.max = m := ⟨_, rfl⟩
  have HLS := Lib.hid (fun (wx : World) (hx : RowE 1 encI wx (.slice sA sn sc) L) => LendInts_any wx _ L hx bs)
  have HLR := Lib.hid (fun (wx : World) (hx : RowE 1 encI wx (.slice rA rn rc) I) => LendInts_any wx _ I hx br)
  have HLT := Lib.hid (fun (wx : World) (hx : RowE 1 encI wx (.slice tA tn tc) S) => LendInts_any wx _ S hx bt')
  have HVAL := Lib.hid (fun (wx : World) (U : CV) (v u t : Value) (ht : TabC wx) (hx : C.In wx U) (hy : RowE 1 encI wx v L) (hz : RowE 1 encI wx u I) (hl : RowE 1 encI wx t S) => tLift_own hx ok ht hy hz hl h64 hO)
  have HRVAL := Lib.hid (fun (wx : World) (U : CV) (v u t : Value) (hx : C.In wx U) (hy : RowE 1 encI wx v L) (hz : RowE 1 encI wx u I) (hl : RowE 1 encI wx t S) => rTLift_own hx ok re.t hy hz hl h64 hO)
  have HKEPT := Lib.hid (fun (wx : World) (B : Nat) (V U : CV) (us : List Value) (hl : LentC wx B C us V) (hx : C.In wx U) => KeptCircuit_any wx B V U C us hl hx)
  have HSAME := Lib.hid (fun (wx : World) (v u : Value) (zs : List Int) (hx : RowE 1 encI wx v zs) (hy : RowE 1 encI wx u zs) => (show Calls Tryd.prog 15 #[v, u] wx fun e w' => e = .returned (.bool true) ∧ Below wx.heap.size wx w' from by have := SameInts_any wx v u zs zs hx hy; rwa [decide_eq_true (rfl : zs = zs)] at this))
  rw [hmm] at HLEND hbx0 hW0 HKEPT HVAL HRVAL
  rw [hmm]
  have HBX0 := Lib.hid hbx0
  generalize liftI C O L I S = LA at *
  generalize liftE C O L I S = fe at *
  rw [hW0] at HLEND
  have HW0 := Lib.hid hW0
  obtain ⟨c0, c1, c2, c3, c4, c5, c6, c7, c8, c9, c10⟩ := rbox_of (by rw [hW0] at hbx0; exact hbx0)
  clear h ok rm re hb0 hmm hbx0 hkx0 hs hr ht bs br bt' h64 hO htc hW0
  go_enter Tryd.func5, Tryd.ntmps5
  go_upto_region 2 with (go_at_call 9; refine HLEND.out.mono ?_; rintro e w1 ⟨U, us, rfl, hb1, hl1⟩; rw [← HW0.out] at hb1; obtain ⟨Ui, Ul, Uo, Ub, Uc, Uj, Uf, Ua, Us, Ut⟩ := U; obtain ⟨A0, n0, k0, hf0⟩ := slT_form hl1.in_.i; simp only at hf0; subst hf0; obtain ⟨A1, n1, k1, hf1⟩ := slT_form hl1.in_.l; simp only at hf1; subst hf1; obtain ⟨A2, n2, k2, hf2⟩ := slT_form hl1.in_.o; simp only at hf2; subst hf2; obtain ⟨A3, n3, k3, hf3⟩ := slT_form hl1.in_.b; simp only at hf3; subst hf3; obtain ⟨A4, n4, k4, hf4⟩ := slT_form hl1.in_.c; simp only at hf4; subst hf4; obtain ⟨A5, n5, k5, hf5⟩ := slT_formL hl1.in_.j; simp only at hf5; subst hf5; obtain ⟨A6, n6, k6, hf6⟩ := slT_form hl1.in_.f; simp only at hf6; subst hf6; obtain ⟨A7, n7, k7, hf7⟩ := slT_form hl1.in_.a; simp only at hf7; subst hf7; obtain ⟨A8, n8, k8, hf8⟩ := slT_form hl1.in_.s; simp only at hf8; subst hf8; obtain ⟨A9, n9, k9, hf9⟩ := slT_form hl1.in_.t; simp only at hf9; subst hf9; have HL1 := Lib.hid hl1; have HB1 := Lib.hid hb1; clear hb1 hl1 c0 c1 c2 c3 c4 c5 c6 c7 c8 c9 c10)
  have HAL0 : Hid (∀ wz, Below (w1.alloc (.cells #[.int .i64 m, .slice A0 n0 k0, .slice A1 n1 k1, .slice A2 n2 k2, .slice A3 n3 k3, .slice A4 n4 k4, .slice A5 n5 k5, .slice A6 n6 k6, .slice A7 n7 k7, .slice A8 n8 k8, .slice A9 n9 k9] 29)).heap.size (w1.alloc (.cells #[.int .i64 m, .slice A0 n0 k0, .slice A1 n1 k1, .slice A2 n2 k2, .slice A3 n3 k3, .slice A4 n4 k4, .slice A5 n5 k5, .slice A6 n6 k6, .slice A7 n7 k7, .slice A8 n8 k8, .slice A9 n9 k9] 29)) wz → Blk wz w.heap.size 29 #[.int .i64 m, Vi, Vl, Vo, Vb, Vc, Vj, Vf, Va, Vs, Vt] ∧ Blk wz (w.heap.size + 1) 45 #[.slice sA sn sc, .slice rA rn rc, .slice tA tn tc] ∧ Below w1.heap.size w1 wz ∧ Below W0.heap.size W0 wz ∧ Below w.heap.size w wz ∧ Blk wz w1.heap.size 29 #[.int .i64 m, .slice A0 n0 k0, .slice A1 n1 k1, .slice A2 n2 k2, .slice A3 n3 k3, .slice A4 n4 k4, .slice A5 n5 k5, .slice A6 n6 k6, .slice A7 n7 k7, .slice A8 n8 k8, .slice A9 n9 k9]) := Lib.hid (fun wz hb => by
    have h3 : Below w1.heap.size w1 wz := bt ((Below.refl w1.heap.size w1).alloc (Nat.le_refl _) _) (Nat.le_refl _) hb
    have h4 : Below W0.heap.size W0 wz := bt HB1.out (Nat.le_refl _) h3
    exact ⟨HBX0.out.below h4 HBX0.out.lt, HKX0.out.below h4 HKX0.out.lt, h3, h4, bt HB0.out (Nat.le_refl _) h4, (Blk.new w1 _ _).below hb (by simp)⟩)
  have HX : Hid (Below (w1.alloc (.cells #[.int .i64 m, .slice A0 n0 k0, .slice A1 n1 k1, .slice A2 n2 k2, .slice A3 n3 k3, .slice A4 n4 k4, .slice A5 n5 k5, .slice A6 n6 k6, .slice A7 n7 k7, .slice A8 n8 k8, .slice A9 n9 k9] 29)).heap.size (w1.alloc (.cells #[.int .i64 m, .slice A0 n0 k0, .slice A1 n1 k1, .slice A2 n2 k2, .slice A3 n3 k3, .slice A4 n4 k4, .slice A5 n5 k5, .slice A6 n6 k6, .slice A7 n7 k7, .slice A8 n8 k8, .slice A9 n9 k9] 29)) (w1.alloc (.cells #[.int .i64 m, .slice A0 n0 k0, .slice A1 n1 k1, .slice A2 n2 k2, .slice A3 n3 k3, .slice A4 n4 k4, .slice A5 n5 k5, .slice A6 n6 k6, .slice A7 n7 k7, .slice A8 n8 k8, .slice A9 n9 k9] 29))) := Lib.hid (Below.refl _ _)
  have HXD := Lib.hid HX.out.drew
  clear HX
  have HX := HXD
  clear HXD
  go_region_held3 (fun w' => w'.cell? ⟨w.heap.size + 1, 0, none⟩ = some (.slice sA sn sc) ∧ w'.cell? ⟨w.heap.size + 1, 1, none⟩ = some (.slice rA rn rc) ∧ w'.cell? ⟨w.heap.size + 1, 2, none⟩ = some (.slice tA tn tc))
    (first | exact trioT_of (HAL0.out _ HX.out).2.1 | go_keep)
    (first
    | (go_at_call_of 10 sA; refine (HLS.out _ (HS0.out.below (HAL0.out _ HX.out).2.2.2.2.1)).mono ?_; rintro e w4 ⟨lv, rfl, hlr, hb⟩; obtain ⟨lA, ln, lc, hle⟩ := lentT_form hlr; subst hle; have Hl := Lib.hid hlr; have B1 := Lib.hid hb; have HXN := Lib.hid (bt HX.out (Nat.le_refl _) hb); clear HX hlr hb; have HX := HXN; clear HXN)
    | (go_at_call_of 10 rA; refine (HLR.out _ (HR0.out.below (HAL0.out _ HX.out).2.2.2.2.1)).mono ?_; rintro e w4 ⟨lv, rfl, hlr, hb⟩; obtain ⟨qA, qn, qc, hle⟩ := lentT_form hlr; subst hle; have Hq := Lib.hid hlr; have B2 := Lib.hid hb; have Tl := Lib.hid (Hl.out.below hb); clear Hl; have Hl := Tl; clear Tl; have HXN := Lib.hid (bt HX.out (Nat.le_refl _) hb); clear HX hlr hb; have HX := HXN; clear HXN)
    | (go_at_call_of 10 tA; refine (HLT.out _ (HT0.out.below (HAL0.out _ HX.out).2.2.2.2.1)).mono ?_; rintro e w4 ⟨lv, rfl, hlr, hb⟩; obtain ⟨zA, zn, zc, hle⟩ := lentT_form hlr; subst hle; have Hz := Lib.hid hlr; have B3 := Lib.hid hb; have Tl := Lib.hid (Hl.out.below hb); clear Hl; have Hl := Tl; clear Tl; have Tq := Lib.hid (Hq.out.below hb); clear Hq; have Hq := Tq; clear Tq; have HXN := Lib.hid (bt HX.out (Nat.le_refl _) hb); clear HX hlr hb; have HX := HXN; clear HXN))
  obtain ⟨BC, HLC⟩ : ∃ B, Hid (LentC w1 B C us ⟨.slice A0 n0 k0, .slice A1 n1 k1, .slice A2 n2 k2, .slice A3 n3 k3, .slice A4 n4 k4, .slice A5 n5 k5, .slice A6 n6 k6, .slice A7 n7 k7, .slice A8 n8 k8, .slice A9 n9 k9⟩) := ⟨_, HL1⟩
  obtain ⟨BL, HLL⟩ : ∃ B, Hid (Lent w4 B (.slice lA ln lc) L) := ⟨_, Hl⟩
  obtain ⟨BQ, HLQ⟩ : ∃ B, Hid (Lent w4 B (.slice qA qn qc) I) := ⟨_, Hq⟩
  obtain ⟨BZ, HLZ⟩ : ∃ B, Hid (Lent w4 B (.slice zA zn zc) S) := ⟨_, Hz⟩
  have HALL : Hid (∀ wz, Below w4.heap.size w4 wz → Blk wz w.heap.size 29 #[.int .i64 m, Vi, Vl, Vo, Vb, Vc, Vj, Vf, Va, Vs, Vt] ∧ Blk wz (w.heap.size + 1) 45 #[.slice sA sn sc, .slice rA rn rc, .slice tA tn tc] ∧ Blk wz w1.heap.size 29 #[.int .i64 m, .slice A0 n0 k0, .slice A1 n1 k1, .slice A2 n2 k2, .slice A3 n3 k3, .slice A4 n4 k4, .slice A5 n5 k5, .slice A6 n6 k6, .slice A7 n7 k7, .slice A8 n8 k8, .slice A9 n9 k9] ∧ C.In wz ⟨Vi, Vl, Vo, Vb, Vc, Vj, Vf, Va, Vs, Vt⟩ ∧ LentC wz BC C us ⟨.slice A0 n0 k0, .slice A1 n1 k1, .slice A2 n2 k2, .slice A3 n3 k3, .slice A4 n4 k4, .slice A5 n5 k5, .slice A6 n6 k6, .slice A7 n7 k7, .slice A8 n8 k8, .slice A9 n9 k9⟩ ∧ RowE 1 encI wz (.slice sA sn sc) L ∧ RowE 1 encI wz (.slice rA rn rc) I ∧ RowE 1 encI wz (.slice tA tn tc) S ∧ Lent wz BL (.slice lA ln lc) L ∧ Lent wz BQ (.slice qA qn qc) I ∧ Lent wz BZ (.slice zA zn zc) S ∧ TabC wz ∧ Below w.heap.size w wz) := Lib.hid (fun wz hb => by
    obtain ⟨e1, e2, e3, e4, e5, e6⟩ := HAL0.out wz (bt HX.out (Nat.le_refl _) hb)
    exact ⟨e1, e2, e6, HIN0.out.below e4, HLC.out.below e3, HS0.out.below e5, HR0.out.below e5, HT0.out.below e5, HLL.out.below hb, HLQ.out.below hb, HLZ.out.below hb, HTC0.out.below e5, e5⟩)
  have HX2 : Hid (Below w4.heap.size w4 w4) := Lib.hid (Below.refl _ _)
  clear HX HL1 HB1 HLC HLL HLQ HLZ Hl Hq Hz HLEND HLS HLR HLT HIN0 HB0 HBX0 HKX0 HS0 HR0 HT0 HTC0 HAL0 HW0 B1 B2 B3
  have HX := HX2
  clear HX2
  generalize hg2 : w1.heap.size = g2 at *
  clear hg2
  obtain ⟨c0, c1, c2, c3, c4, c5, c6, c7, c8, c9, c10⟩ := rbox_of (HALL.out _ HX.out).1
  obtain ⟨x0, x1, x2⟩ := trioT_of (HALL.out _ HX.out).2.1
  obtain ⟨d0, d1, d2, d3, d4, d5, d6, d7, d8, d9, d10⟩ := rbox_of (HALL.out _ HX.out).2.2.1
  go_upto_region 4 with (go_at_call 24; refine (HVAL.out _ _ _ _ _ (HALL.out _ HX.out).2.2.2.2.2.2.2.2.2.2.2.1 (HALL.out _ HX.out).2.2.2.2.1.in_ (HALL.out _ HX.out).2.2.2.2.2.2.2.2.1.reads (HALL.out _ HX.out).2.2.2.2.2.2.2.2.2.1.reads (HALL.out _ HX.out).2.2.2.2.2.2.2.2.2.2.1.reads).mono ?_; rintro e w5 ⟨hb, v, rfl, ho⟩; obtain ⟨AHA, cHA, hve⟩ := own_slice_k ho; subst hve; have HA := Lib.hid (own_le ho HX.out.size); clear ho; have HXN := Lib.hid (bt HX.out (Nat.le_refl _) hb); clear HX hb c0 c1 c2 c3 c4 c5 c6 c7 c8 c9 c10 d0 d1 d2 d3 d4 d5 d6 d7 d8 d9 d10 x0 x1 x2; have HX := HXN; clear HXN; obtain ⟨c0, c1, c2, c3, c4, c5, c6, c7, c8, c9, c10⟩ := rbox_of (HALL.out _ HX.out).1; obtain ⟨x0, x1, x2⟩ := trioT_of (HALL.out _ HX.out).2.1; obtain ⟨d0, d1, d2, d3, d4, d5, d6, d7, d8, d9, d10⟩ := rbox_of (HALL.out _ HX.out).2.2.1)
  go_upto_region 5 with (go_at_call 25; refine (HRVAL.out _ _ _ _ _ (HALL.out _ HX.out).2.2.2.1 (HALL.out _ HX.out).2.2.2.2.2.1 (HALL.out _ HX.out).2.2.2.2.2.2.1 (HALL.out _ HX.out).2.2.2.2.2.2.2.1).mono ?_; rintro e w6 ⟨hb, v, rfl, ho⟩; obtain ⟨AHB, cHB, hve⟩ := own_slice_k ho; subst hve; have THA := Lib.hid (own_below HA.out hb); clear HA; have HA := THA; clear THA; have HB := Lib.hid (own_le ho HX.out.size); clear ho; have HXN := Lib.hid (bt HX.out (Nat.le_refl _) hb); clear HX hb c0 c1 c2 c3 c4 c5 c6 c7 c8 c9 c10 d0 d1 d2 d3 d4 d5 d6 d7 d8 d9 d10 x0 x1 x2; have HX := HXN; clear HXN; obtain ⟨c0, c1, c2, c3, c4, c5, c6, c7, c8, c9, c10⟩ := rbox_of (HALL.out _ HX.out).1; obtain ⟨x0, x1, x2⟩ := trioT_of (HALL.out _ HX.out).2.1; obtain ⟨d0, d1, d2, d3, d4, d5, d6, d7, d8, d9, d10⟩ := rbox_of (HALL.out _ HX.out).2.2.1)
  go_upto_region 7 with (go_at_call 15; refine (HSAME.out _ _ _ LA (own_rowI HA.out) (own_rowI HB.out)).mono ?_; rintro e w7 ⟨rfl, hb⟩; have THA := Lib.hid (own_below HA.out hb); clear HA; have HA := THA; clear THA; have HXN := Lib.hid (bt HX.out (Nat.le_refl _) hb); clear HX hb c0 c1 c2 c3 c4 c5 c6 c7 c8 c9 c10 d0 d1 d2 d3 d4 d5 d6 d7 d8 d9 d10 x0 x1 x2; have HX := HXN; clear HXN; obtain ⟨c0, c1, c2, c3, c4, c5, c6, c7, c8, c9, c10⟩ := rbox_of (HALL.out _ HX.out).1; obtain ⟨x0, x1, x2⟩ := trioT_of (HALL.out _ HX.out).2.1; obtain ⟨d0, d1, d2, d3, d4, d5, d6, d7, d8, d9, d10⟩ := rbox_of (HALL.out _ HX.out).2.2.1)
  go_upto_region 8 with (go_at_call 16; refine (SpoilInts_any _ _ _ _ _ _ HA.out).mono ?_; rintro e w8 ⟨rfl, hgr⟩; have HXN := Lib.hid (HX.out.grown hgr HX.out.size (fun k hk => (HA.out.lt k hk).1)); clear HX hgr c0 c1 c2 c3 c4 c5 c6 c7 c8 c9 c10 d0 d1 d2 d3 d4 d5 d6 d7 d8 d9 d10 x0 x1 x2; have HX := HXN; clear HXN; obtain ⟨c0, c1, c2, c3, c4, c5, c6, c7, c8, c9, c10⟩ := rbox_of (HALL.out _ HX.out).1; obtain ⟨x0, x1, x2⟩ := trioT_of (HALL.out _ HX.out).2.1; obtain ⟨d0, d1, d2, d3, d4, d5, d6, d7, d8, d9, d10⟩ := rbox_of (HALL.out _ HX.out).2.2.1)
  go_wp2_with (first
    | (go_at_call 17; refine (HKEPT.out _ _ _ _ _ (HALL.out _ HX.out).2.2.2.2.1 (HALL.out _ HX.out).2.2.2.1).mono ?_; rintro e w9 ⟨rfl, hb⟩; have HXN := Lib.hid (bt HX.out (Nat.le_refl _) hb); clear HX hb c0 c1 c2 c3 c4 c5 c6 c7 c8 c9 c10 d0 d1 d2 d3 d4 d5 d6 d7 d8 d9 d10 x0 x1 x2; have HX := HXN; clear HXN; obtain ⟨c0, c1, c2, c3, c4, c5, c6, c7, c8, c9, c10⟩ := rbox_of (HALL.out _ HX.out).1; obtain ⟨x0, x1, x2⟩ := trioT_of (HALL.out _ HX.out).2.1; obtain ⟨d0, d1, d2, d3, d4, d5, d6, d7, d8, d9, d10⟩ := rbox_of (HALL.out _ HX.out).2.2.1)
    | (go_at_call_of 18 lA; refine (KeptInts_any _ _ _ _ _ (HALL.out _ HX.out).2.2.2.2.2.2.2.2.1 (HALL.out _ HX.out).2.2.2.2.2.1).mono ?_; rintro e w9 ⟨rfl, hb⟩; have HXN := Lib.hid (bt HX.out (Nat.le_refl _) hb); clear HX hb c0 c1 c2 c3 c4 c5 c6 c7 c8 c9 c10 d0 d1 d2 d3 d4 d5 d6 d7 d8 d9 d10 x0 x1 x2; have HX := HXN; clear HXN; obtain ⟨c0, c1, c2, c3, c4, c5, c6, c7, c8, c9, c10⟩ := rbox_of (HALL.out _ HX.out).1; obtain ⟨x0, x1, x2⟩ := trioT_of (HALL.out _ HX.out).2.1; obtain ⟨d0, d1, d2, d3, d4, d5, d6, d7, d8, d9, d10⟩ := rbox_of (HALL.out _ HX.out).2.2.1)
    | (go_at_call_of 18 qA; refine (KeptInts_any _ _ _ _ _ (HALL.out _ HX.out).2.2.2.2.2.2.2.2.2.1 (HALL.out _ HX.out).2.2.2.2.2.2.1).mono ?_; rintro e w9 ⟨rfl, hb⟩; have HXN := Lib.hid (bt HX.out (Nat.le_refl _) hb); clear HX hb c0 c1 c2 c3 c4 c5 c6 c7 c8 c9 c10 d0 d1 d2 d3 d4 d5 d6 d7 d8 d9 d10 x0 x1 x2; have HX := HXN; clear HXN; obtain ⟨c0, c1, c2, c3, c4, c5, c6, c7, c8, c9, c10⟩ := rbox_of (HALL.out _ HX.out).1; obtain ⟨x0, x1, x2⟩ := trioT_of (HALL.out _ HX.out).2.1; obtain ⟨d0, d1, d2, d3, d4, d5, d6, d7, d8, d9, d10⟩ := rbox_of (HALL.out _ HX.out).2.2.1)
    | (go_at_call_of 18 zA; refine (KeptInts_any _ _ _ _ _ (HALL.out _ HX.out).2.2.2.2.2.2.2.2.2.2.1 (HALL.out _ HX.out).2.2.2.2.2.2.2.1).mono ?_; rintro e w9 ⟨rfl, hb⟩; have HXN := Lib.hid (bt HX.out (Nat.le_refl _) hb); clear HX hb c0 c1 c2 c3 c4 c5 c6 c7 c8 c9 c10 d0 d1 d2 d3 d4 d5 d6 d7 d8 d9 d10 x0 x1 x2; have HX := HXN; clear HXN; obtain ⟨c0, c1, c2, c3, c4, c5, c6, c7, c8, c9, c10⟩ := rbox_of (HALL.out _ HX.out).1; obtain ⟨x0, x1, x2⟩ := trioT_of (HALL.out _ HX.out).2.1; obtain ⟨d0, d1, d2, d3, d4, d5, d6, d7, d8, d9, d10⟩ := rbox_of (HALL.out _ HX.out).2.2.1)
    | (go_at_call 19; refine (worksT_any _ (HALL.out _ HX.out).2.2.2.2.2.2.2.2.2.2.2.1).mono ?_; rintro e w9 ⟨rfl, hb⟩; have HXN := Lib.hid (bt HX.out (Nat.le_refl _) hb); clear HX hb c0 c1 c2 c3 c4 c5 c6 c7 c8 c9 c10 d0 d1 d2 d3 d4 d5 d6 d7 d8 d9 d10 x0 x1 x2; have HX := HXN; clear HXN; obtain ⟨c0, c1, c2, c3, c4, c5, c6, c7, c8, c9, c10⟩ := rbox_of (HALL.out _ HX.out).1; obtain ⟨x0, x1, x2⟩ := trioT_of (HALL.out _ HX.out).2.1; obtain ⟨d0, d1, d2, d3, d4, d5, d6, d7, d8, d9, d10⟩ := rbox_of (HALL.out _ HX.out).2.2.1))
  go_ret
  exact ⟨rfl, (HALL.out _ HX.out).2.2.2.2.2.2.2.2.2.2.2.2⟩
end Go.Proofs.YtbeaicmjohlboaaDoor

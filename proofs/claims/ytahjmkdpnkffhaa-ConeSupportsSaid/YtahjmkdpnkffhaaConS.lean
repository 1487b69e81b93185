/- Cone: ConeSupports: the walk of the statement. -/
import Derived.Test.YtahjmkdpnkffhaaConK
import Derived.Test.YtahjmkdpnkffhaaConO
import Derived.Test.YtahjmkdpnkffhaaSpoO
import Derived.Test.YtahjmkdpnkffhaaLendC
import Derived.Test.YtahjmkdpnkffhaaKeptC
import Derived.Test.YtahjmkdpnkffhaaArgC
namespace Go.Proofs.Ytahjmkdpnkffhaa
open Go.RowKit Go.Maps

theorem sl_formS {E : Type} {k : Nat} {enc : E → List Value} {w : World} {v : Value} {zs : List E} (h : RowE k enc w v zs) : ∃ A n c, v = .slice A n c := by
  obtain ⟨A, c, e, _⟩ := h
  exact ⟨A, _, c, e⟩
theorem sl_formLS {w : World} {v : Value} {zss : List (List Int)} (h : Lists w v zss) : ∃ A n c, v = .slice A n c := by
  obtain ⟨us, hr, _⟩ := h
  exact sl_formS hr
theorem own_bRow {w : World} {B : Nat} {v : Value} {zs : List Bool} (h : w.ownsRow B 4 1 v zs.length (zs.map Value.bool)) : RowE 1 encO w v zs := own_rowe lenO (by rw [flat_bools]; exact h)
theorem own_iRow {w : World} {B : Nat} {v : Value} {zs : List Int} (h : w.ownsRow B 3 1 v zs.length (zs.map (Value.int .i64))) : RowE 1 encI w v zs := own_rowe lenI (by rw [flat_ints]; exact h)
theorem apart_or {u v : Value} (h : ∀ g, u.ownBlock = some g → v.ownBlock = some g → False) : v.ownBlock = none ∨ v.ownBlock ≠ u.ownBlock := by
  rcases e : v.ownBlock with _ | g
  · exact .inl rfl
  · exact .inr (fun h2 => h g h2.symm e)
noncomputable def supA (C : Circ) (L : List Int) : List Bool := if litsE C L = 0 then supF (thruU C) L else []
noncomputable def inpA (C : Circ) (L : List Int) : List Int := if litsE C L = 0 then inpF C L else []
theorem sup_own {w' : World} {B : Nat} {C : Circ} {L : List Int} {r : Value} (hno : litsE C L ≠ 0 → r = .slice none 0 0) (hyes : litsE C L = 0 → ∃ g, r = .slice (some ⟨g, 0, none⟩) (C.max.toNat + 1) (C.max.toNat + 1) ∧ B ≤ g ∧ Tab w' g (supF (thruU C) L)) :
    w'.ownsRow B 4 1 r (supA C L).length ((supA C L).map Value.bool) := by
  by_cases h0 : litsE C L = 0
  · obtain ⟨g, rfl, hg, ht⟩ := hyes h0
    have hm := (right_of (litsE_ok h0).1).m1
    have hl : (supF (thruU C) L).length = C.max.toNat + 1 := by rw [supF_len, thruU_len]
    unfold supA
    rw [if_pos h0, hl]
    refine ⟨by simp [hl], .inr ⟨g, C.max.toNat + 1, _, rfl, hg, ht, Nat.le_refl _, by unfold maxLen; omega, by simp [hl], ?_⟩⟩
    simp [← hl, List.take_of_length_le]
  · obtain rfl := hno h0
    unfold supA
    rw [if_neg h0]
    exact World.ownsRow_nil _ _ _ _
theorem inp_own {w' : World} {B : Nat} {C : Circ} {L : List Int} {r : Value} (hno : litsE C L ≠ 0 → r = .slice none 0 0) (hyes : litsE C L = 0 → w'.ownsRow B 3 1 r (inpF C L).length ((inpF C L).map (Value.int .i64))) :
    w'.ownsRow B 3 1 r (inpA C L).length ((inpA C L).map (Value.int .i64)) := by
  unfold inpA
  by_cases h0 : litsE C L = 0
  · rw [if_pos h0]
    exact hyes h0
  · obtain rfl := hno h0
    rw [if_neg h0]
    exact World.ownsRow_nil _ _ _ _
theorem SupportO_any (w : World) (V : CV) (C : Circ) (v : Value) (L : List Int) (h : C.In w V) (ok : C.Ok) (hv : RowE 1 encI w v L) :
    Calls Try.prog 38 #[V.val C.max, v] w fun e w' => Below w.heap.size w w' ∧ ∃ A n c, e = .returned (.tuple #[.slice A n c, .int .i64 (litsE C L)]) ∧ w'.ownsRow w.heap.size 4 1 (.slice A n c) (supA C L).length ((supA C L).map Value.bool) := by
  refine (Support_any w V C v L h ok hv).mono ?_
  rintro e w' ⟨hb, r, rfl, hno, hyes⟩
  have ho := sup_own hno hyes
  obtain ⟨A, c, rfl⟩ := own_slice_k ho
  exact ⟨hb, A, _, c, rfl, ho⟩
theorem rSupportO_any (w : World) (V : CV) (C : Circ) (v : Value) (L : List Int) (h : C.In w V) (ok : C.Ok) (htn : ∀ s ∈ C.comments, s.size ≤ maxLen) (hv : RowE 1 encI w v L) :
    Calls Try.prog 39 #[V.val C.max, v] w fun e w' => Below w.heap.size w w' ∧ ∃ A n c, e = .returned (.tuple #[.slice A n c, .int .i64 (litsE C L)]) ∧ w'.ownsRow w.heap.size 4 1 (.slice A n c) (supA C L).length ((supA C L).map Value.bool) := by
  refine (rSupportC_any w V C v L h ok htn hv).mono ?_
  rintro e w' ⟨hb, r, rfl, hno, hyes⟩
  have ho := sup_own hno hyes
  obtain ⟨A, c, rfl⟩ := own_slice_k ho
  exact ⟨hb, A, _, c, rfl, ho⟩
theorem InputsO_any (w : World) (V : CV) (C : Circ) (v : Value) (L : List Int) (h : C.In w V) (ok : C.Ok) (hv : RowE 1 encI w v L) :
    Calls Try.prog 40 #[V.val C.max, v] w fun e w' => Below w.heap.size w w' ∧ ∃ A n c, e = .returned (.tuple #[.slice A n c, .int .i64 (litsE C L)]) ∧ w'.ownsRow w.heap.size 3 1 (.slice A n c) (inpA C L).length ((inpA C L).map (Value.int .i64)) := by
  refine (coneInputs_any w V C v L h ok hv).mono ?_
  rintro e w' ⟨hb, r, rfl, hno, hyes⟩
  have ho := inp_own hno hyes
  obtain ⟨A, c, rfl⟩ := own_slice_k ho
  exact ⟨hb, A, _, c, rfl, ho⟩
theorem rInputsO_any (w : World) (V : CV) (C : Circ) (v : Value) (L : List Int) (h : C.In w V) (ok : C.Ok) (htn : ∀ s ∈ C.comments, s.size ≤ maxLen) (hv : RowE 1 encI w v L) :
    Calls Try.prog 41 #[V.val C.max, v] w fun e w' => Below w.heap.size w w' ∧ ∃ A n c, e = .returned (.tuple #[.slice A n c, .int .i64 (litsE C L)]) ∧ w'.ownsRow w.heap.size 3 1 (.slice A n c) (inpA C L).length ((inpA C L).map (Value.int .i64)) := by
  refine (rInputsC_any w V C v L h ok htn hv).mono ?_
  rintro e w' ⟨hb, r, rfl, hno, hyes⟩
  have ho := inp_own hno hyes
  obtain ⟨A, c, rfl⟩ := own_slice_k ho
  exact ⟨hb, A, _, c, rfl, ho⟩

set_option maxHeartbeats 20000000 in
set_option maxRecDepth 100000 in
theorem coneSupports_walk (w : World) (V : CV) (C : Circ) (v : Value) (L : List Int) (h : C.In w V) (ok : C.Ok) (rm : C.Room ∧ C.Reach) (hv : RowE 1 encI w v L) (hlb : L.length * 8 ≤ 140737488351232) (_hw : ∀ z ∈ L, I64 z) :
    Calls Try.prog 8 #[V.val C.max, v] w fun e w' => e = .returned (.bool true) ∧ Below w.heap.size w w' := by
  obtain ⟨rm, re⟩ := rm
  have hb0 := (Below.refl w.heap.size w).alloc (Nat.le_refl _) (.cells (V.cells C.max) 51)
  have HLEND := Lib.hid (LendCircuit_any (w.alloc (.cells (V.cells C.max) 51)) V C (h.below hb0) rm ⟨re.i, re.o, re.b, re.c, re.f, re.l, re.a⟩)
  have HIN0 := Lib.hid (h.below hb0)
  have HB0 := Lib.hid hb0
  have HS0 := Lib.hid hv
  have hbx0 := Blk.new w 51 (V.cells C.max)
  obtain ⟨sA, sn, sc, hse⟩ := sl_formS hv
  subst hse
  obtain ⟨Vi, Vl, Vo, Vb, Vc, Vj, Vf, Va, Vs, Vt⟩ := V
  obtain ⟨m, hmm⟩ : ∃ m, C.max = m := ⟨_, rfl⟩
  have HLT := Lib.hid (fun (wx : World) (hx : RowE 1 encI wx (.slice sA sn sc) L) => LendInts_any wx _ L hx hlb)
  have HSU := Lib.hid (fun (wx : World) (U : CV) (u : Value) (hx : C.In wx U) (hy : RowE 1 encI wx u L) => SupportO_any wx U C u L hx ok hy)
  have HRS := Lib.hid (fun (wx : World) (hx : C.In wx ⟨Vi, Vl, Vo, Vb, Vc, Vj, Vf, Va, Vs, Vt⟩) (hy : RowE 1 encI wx (.slice sA sn sc) L) => rSupportO_any wx _ C _ L hx ok re.t hy)
  have HIU := Lib.hid (fun (wx : World) (U : CV) (u : Value) (hx : C.In wx U) (hy : RowE 1 encI wx u L) => InputsO_any wx U C u L hx ok hy)
  have HRI := Lib.hid (fun (wx : World) (hx : C.In wx ⟨Vi, Vl, Vo, Vb, Vc, Vj, Vf, Va, Vs, Vt⟩) (hy : RowE 1 encI wx (.slice sA sn sc) L) => rInputsO_any wx _ C _ L hx ok re.t hy)
  have HKEPT := Lib.hid (fun (wx : World) (B : Nat) (V U : CV) (us : List Value) (hl : LentC wx B C us V) (hx : C.In wx U) => KeptCircuit_any wx B V U C us hl hx)
  have HKI := Lib.hid (fun (wx : World) (B : Nat) (u y : Value) (hl : Lent wx B u L) (hx : Ints wx y L) => KeptInts_any wx B u y L hl hx)
  generalize supA C L = sa at *
  generalize inpA C L = ia at *
  generalize litsE C L = se at *
  have HSO := Lib.hid (fun (wx : World) (v u : Value) (hx : RowE 1 encO wx v sa) (hy : RowE 1 encO wx u sa) => SameO_any wx v u sa sa hx hy)
  rw [decide_eq_true (rfl : sa = sa)] at HSO
  have HSI := Lib.hid (fun (wx : World) (v u : Value) (hx : RowE 1 encI wx v ia) (hy : RowE 1 encI wx u ia) => SameInts_any wx v u ia ia hx hy)
  rw [decide_eq_true (rfl : ia = ia)] at HSI
  rw [hmm] at HLEND HIN0 HB0 hbx0 HKEPT HSU HRS HIU HRI
  rw [hmm]
  have HBX0 := Lib.hid hbx0
  obtain ⟨c0, c1, c2, c3, c4, c5, c6, c7, c8, c9, c10⟩ := rbox_of hbx0
  clear h ok rm re hb0 hmm hbx0 hv hlb
  go_enter Try.func8, Try.ntmps8
  go_upto_region 2 with (first
    | (go_at_call 20; refine HLEND.out.mono ?_; rintro e w1 ⟨U, us, rfl, hb1, hl1⟩; obtain ⟨Ui, Ul, Uo, Ub, Uc, Uj, Uf, Ua, Us, Ut⟩ := U; obtain ⟨A0, n0, k0, hf0⟩ := sl_formS hl1.in_.i; simp only at hf0; subst hf0; obtain ⟨A1, n1, k1, hf1⟩ := sl_formS hl1.in_.l; simp only at hf1; subst hf1; obtain ⟨A2, n2, k2, hf2⟩ := sl_formS hl1.in_.o; simp only at hf2; subst hf2; obtain ⟨A3, n3, k3, hf3⟩ := sl_formS hl1.in_.b; simp only at hf3; subst hf3; obtain ⟨A4, n4, k4, hf4⟩ := sl_formS hl1.in_.c; simp only at hf4; subst hf4; obtain ⟨A5, n5, k5, hf5⟩ := sl_formLS hl1.in_.j; simp only at hf5; subst hf5; obtain ⟨A6, n6, k6, hf6⟩ := sl_formS hl1.in_.f; simp only at hf6; subst hf6; obtain ⟨A7, n7, k7, hf7⟩ := sl_formS hl1.in_.a; simp only at hf7; subst hf7; obtain ⟨A8, n8, k8, hf8⟩ := sl_formS hl1.in_.s; simp only at hf8; subst hf8; obtain ⟨A9, n9, k9, hf9⟩ := sl_formS hl1.in_.t; simp only at hf9; subst hf9; have HL1 := Lib.hid hl1; have HB1 := Lib.hid hb1; clear hb1 hl1 c0 c1 c2 c3 c4 c5 c6 c7 c8 c9 c10)
    | (go_at_call 37; refine (HLT.out _ ((HS0.out.below HB0.out).below HB1.out)).mono ?_; rintro e w2 ⟨lv, rfl, hlr, hb2⟩; obtain ⟨lA, ln, lc, hle⟩ := sl_formS hlr.reads; subst hle; have HLR := Lib.hid hlr; have HB2 := Lib.hid hb2; clear hlr hb2))
  have HALL : Hid (∀ wz, Below (w2.alloc (.cells #[.int .i64 m, .slice A0 n0 k0, .slice A1 n1 k1, .slice A2 n2 k2, .slice A3 n3 k3, .slice A4 n4 k4, .slice A5 n5 k5, .slice A6 n6 k6, .slice A7 n7 k7, .slice A8 n8 k8, .slice A9 n9 k9] 51)).heap.size (w2.alloc (.cells #[.int .i64 m, .slice A0 n0 k0, .slice A1 n1 k1, .slice A2 n2 k2, .slice A3 n3 k3, .slice A4 n4 k4, .slice A5 n5 k5, .slice A6 n6 k6, .slice A7 n7 k7, .slice A8 n8 k8, .slice A9 n9 k9] 51)) wz → Blk wz w.heap.size 51 #[.int .i64 m, Vi, Vl, Vo, Vb, Vc, Vj, Vf, Va, Vs, Vt] ∧ Blk wz w2.heap.size 51 #[.int .i64 m, .slice A0 n0 k0, .slice A1 n1 k1, .slice A2 n2 k2, .slice A3 n3 k3, .slice A4 n4 k4, .slice A5 n5 k5, .slice A6 n6 k6, .slice A7 n7 k7, .slice A8 n8 k8, .slice A9 n9 k9] ∧ C.In wz ⟨Vi, Vl, Vo, Vb, Vc, Vj, Vf, Va, Vs, Vt⟩ ∧ LentC wz (w.alloc (.cells #[.int .i64 m, Vi, Vl, Vo, Vb, Vc, Vj, Vf, Va, Vs, Vt] 51)).heap.size C us ⟨.slice A0 n0 k0, .slice A1 n1 k1, .slice A2 n2 k2, .slice A3 n3 k3, .slice A4 n4 k4, .slice A5 n5 k5, .slice A6 n6 k6, .slice A7 n7 k7, .slice A8 n8 k8, .slice A9 n9 k9⟩ ∧ RowE 1 encI wz (.slice sA sn sc) L ∧ Lent wz w1.heap.size (.slice lA ln lc) L ∧ Below w.heap.size w wz) := Lib.hid (fun wz hb => by
    have h2 : Below w2.heap.size w2 wz := bt ((Below.refl w2.heap.size w2).alloc (Nat.le_refl _) _) (Nat.le_refl _) hb
    have h3 : Below w1.heap.size w1 wz := bt HB2.out (Nat.le_refl _) h2
    have h4 : Below (w.alloc (.cells #[.int .i64 m, Vi, Vl, Vo, Vb, Vc, Vj, Vf, Va, Vs, Vt] 51)).heap.size (w.alloc (.cells #[.int .i64 m, Vi, Vl, Vo, Vb, Vc, Vj, Vf, Va, Vs, Vt] 51)) wz := bt HB1.out (Nat.le_refl _) h3
    have h5 := HB0.out.trans (h4.mono (by simp))
    exact ⟨HBX0.out.below h4 HBX0.out.lt, (Blk.new w2 _ _).below hb (by simp), HIN0.out.below h4, HL1.out.below h3, HS0.out.below h5, HLR.out.below h2, h5⟩)
  have HX : Hid (Below (w2.alloc (.cells #[.int .i64 m, .slice A0 n0 k0, .slice A1 n1 k1, .slice A2 n2 k2, .slice A3 n3 k3, .slice A4 n4 k4, .slice A5 n5 k5, .slice A6 n6 k6, .slice A7 n7 k7, .slice A8 n8 k8, .slice A9 n9 k9] 51)).heap.size (w2.alloc (.cells #[.int .i64 m, .slice A0 n0 k0, .slice A1 n1 k1, .slice A2 n2 k2, .slice A3 n3 k3, .slice A4 n4 k4, .slice A5 n5 k5, .slice A6 n6 k6, .slice A7 n7 k7, .slice A8 n8 k8, .slice A9 n9 k9] 51)) (w2.alloc (.cells #[.int .i64 m, .slice A0 n0 k0, .slice A1 n1 k1, .slice A2 n2 k2, .slice A3 n3 k3, .slice A4 n4 k4, .slice A5 n5 k5, .slice A6 n6 k6, .slice A7 n7 k7, .slice A8 n8 k8, .slice A9 n9 k9] 51))) := Lib.hid (Below.refl _ _)
  clear HL1 HB1 HB2 HLEND HLT HIN0 HB0 HBX0 HLR HS0
  generalize hg2 : w2.heap.size = g2 at *
  generalize w2.alloc (.cells #[.int .i64 m, .slice A0 n0 k0, .slice A1 n1 k1, .slice A2 n2 k2, .slice A3 n3 k3, .slice A4 n4 k4, .slice A5 n5 k5, .slice A6 n6 k6, .slice A7 n7 k7, .slice A8 n8 k8, .slice A9 n9 k9] 51) = X at *
  clear hg2
  obtain ⟨c0, c1, c2, c3, c4, c5, c6, c7, c8, c9, c10⟩ := rbox_of (HALL.out _ HX.out).1
  obtain ⟨d0, d1, d2, d3, d4, d5, d6, d7, d8, d9, d10⟩ := rbox_of (HALL.out _ HX.out).2.1
  go_upto_region 3 with (go_at_call 38; refine (HSU.out _ _ _ (HALL.out _ HX.out).2.2.2.1.in_ (HALL.out _ HX.out).2.2.2.2.2.1.reads).mono ?_; rintro e w3 ⟨hb, aA, an, ac, rfl, ho⟩; have HA := Lib.hid (own_base ho HX.out.size); clear ho; have HXN := Lib.hid (bt HX.out (Nat.le_refl _) hb); clear HX c0 c1 c2 c3 c4 c5 c6 c7 c8 c9 c10 d0 d1 d2 d3 d4 d5 d6 d7 d8 d9 d10; have HX := HXN; clear HXN; obtain ⟨c0, c1, c2, c3, c4, c5, c6, c7, c8, c9, c10⟩ := rbox_of (HALL.out _ HX.out).1; obtain ⟨d0, d1, d2, d3, d4, d5, d6, d7, d8, d9, d10⟩ := rbox_of (HALL.out _ HX.out).2.1; clear hb)
  go_upto_region 4 with (go_at_call 39; refine (HRS.out _ (HALL.out _ HX.out).2.2.1 (HALL.out _ HX.out).2.2.2.2.1).mono ?_; rintro e w4 ⟨hb, bA, bn, bc, rfl, ho⟩; have HB := Lib.hid (own_base ho HX.out.size); clear ho; have THA := Lib.hid (own_below HA.out hb); clear HA; have HA := THA; clear THA; have HXN := Lib.hid (bt HX.out (Nat.le_refl _) hb); clear HX c0 c1 c2 c3 c4 c5 c6 c7 c8 c9 c10 d0 d1 d2 d3 d4 d5 d6 d7 d8 d9 d10; have HX := HXN; clear HXN; obtain ⟨c0, c1, c2, c3, c4, c5, c6, c7, c8, c9, c10⟩ := rbox_of (HALL.out _ HX.out).1; obtain ⟨d0, d1, d2, d3, d4, d5, d6, d7, d8, d9, d10⟩ := rbox_of (HALL.out _ HX.out).2.1; clear hb)
  go_upto_region 5 with (go_at_call 40; refine (HIU.out _ _ _ (HALL.out _ HX.out).2.2.2.1.in_ (HALL.out _ HX.out).2.2.2.2.2.1.reads).mono ?_; rintro e w5 ⟨hb, xA, xn, xc, rfl, ho⟩; have HAP : Hid (∀ g, (Value.slice aA an ac).ownBlock = some g → (Value.slice xA xn xc).ownBlock = some g → False) := Lib.hid (fun g h1 h2 => Nat.lt_irrefl _ (Nat.lt_of_lt_of_le (HA.out.lt g h1).2 (ho.lt g h2).1)); have HXI := Lib.hid (own_base ho HX.out.size); clear ho; have THA := Lib.hid (own_below HA.out hb); clear HA; have HA := THA; clear THA; have THB := Lib.hid (own_below HB.out hb); clear HB; have HB := THB; clear THB; have HXN := Lib.hid (bt HX.out (Nat.le_refl _) hb); clear HX c0 c1 c2 c3 c4 c5 c6 c7 c8 c9 c10 d0 d1 d2 d3 d4 d5 d6 d7 d8 d9 d10; have HX := HXN; clear HXN; obtain ⟨c0, c1, c2, c3, c4, c5, c6, c7, c8, c9, c10⟩ := rbox_of (HALL.out _ HX.out).1; obtain ⟨d0, d1, d2, d3, d4, d5, d6, d7, d8, d9, d10⟩ := rbox_of (HALL.out _ HX.out).2.1; clear hb)
  go_upto_region 6 with (go_at_call 41; refine (HRI.out _ (HALL.out _ HX.out).2.2.1 (HALL.out _ HX.out).2.2.2.2.1).mono ?_; rintro e w6 ⟨hb, yA, yn, yc, rfl, ho⟩; have HY := Lib.hid (own_base ho HX.out.size); clear ho; have THA := Lib.hid (own_below HA.out hb); clear HA; have HA := THA; clear THA; have THB := Lib.hid (own_below HB.out hb); clear HB; have HB := THB; clear THB; have THXI := Lib.hid (own_below HXI.out hb); clear HXI; have HXI := THXI; clear THXI; have HXN := Lib.hid (bt HX.out (Nat.le_refl _) hb); clear HX c0 c1 c2 c3 c4 c5 c6 c7 c8 c9 c10 d0 d1 d2 d3 d4 d5 d6 d7 d8 d9 d10; have HX := HXN; clear HXN; obtain ⟨c0, c1, c2, c3, c4, c5, c6, c7, c8, c9, c10⟩ := rbox_of (HALL.out _ HX.out).1; obtain ⟨d0, d1, d2, d3, d4, d5, d6, d7, d8, d9, d10⟩ := rbox_of (HALL.out _ HX.out).2.1; clear hb)
  go_upto_region 8 with (first
    | (go_at_call 42; refine (HSO.out _ _ _ (own_bRow HA.out) (own_bRow HB.out)).mono ?_; rintro e w7 ⟨rfl, hb⟩; have THA := Lib.hid (own_below HA.out hb); clear HA; have HA := THA; clear THA; have THB := Lib.hid (own_below HB.out hb); clear HB; have HB := THB; clear THB; have THXI := Lib.hid (own_below HXI.out hb); clear HXI; have HXI := THXI; clear THXI; have THY := Lib.hid (own_below HY.out hb); clear HY; have HY := THY; clear THY; have HXN := Lib.hid (bt HX.out (Nat.le_refl _) hb); clear HX c0 c1 c2 c3 c4 c5 c6 c7 c8 c9 c10 d0 d1 d2 d3 d4 d5 d6 d7 d8 d9 d10; have HX := HXN; clear HXN; obtain ⟨c0, c1, c2, c3, c4, c5, c6, c7, c8, c9, c10⟩ := rbox_of (HALL.out _ HX.out).1; obtain ⟨d0, d1, d2, d3, d4, d5, d6, d7, d8, d9, d10⟩ := rbox_of (HALL.out _ HX.out).2.1; clear hb)
    | (go_at_call 24; refine (HSI.out _ _ _ (own_iRow HXI.out) (own_iRow HY.out)).mono ?_; rintro e w8 ⟨rfl, hb⟩; have THA := Lib.hid (own_below HA.out hb); clear HA; have HA := THA; clear THA; have THB := Lib.hid (own_below HB.out hb); clear HB; have HB := THB; clear THB; have THXI := Lib.hid (own_below HXI.out hb); clear HXI; have HXI := THXI; clear THXI; have THY := Lib.hid (own_below HY.out hb); clear HY; have HY := THY; clear THY; have HXN := Lib.hid (bt HX.out (Nat.le_refl _) hb); clear HX c0 c1 c2 c3 c4 c5 c6 c7 c8 c9 c10 d0 d1 d2 d3 d4 d5 d6 d7 d8 d9 d10; have HX := HXN; clear HXN; obtain ⟨c0, c1, c2, c3, c4, c5, c6, c7, c8, c9, c10⟩ := rbox_of (HALL.out _ HX.out).1; obtain ⟨d0, d1, d2, d3, d4, d5, d6, d7, d8, d9, d10⟩ := rbox_of (HALL.out _ HX.out).2.1; clear hb))
  clear HB HY
  go_upto_region 9 with (go_at_call 43; refine (SpoilO_any _ _ _ _ _ rfl HA.out).mono ?_; rintro e w9 ⟨rfl, hgr⟩; have THXI := Lib.hid (HXI.out.kept hgr (apart_or HAP.out)); clear HXI; have HXI := THXI; clear THXI; have HXN := Lib.hid (HX.out.grown hgr HX.out.size (fun k hk => (HA.out.lt k hk).1)); clear HX c0 c1 c2 c3 c4 c5 c6 c7 c8 c9 c10 d0 d1 d2 d3 d4 d5 d6 d7 d8 d9 d10; have HX := HXN; clear HXN; obtain ⟨c0, c1, c2, c3, c4, c5, c6, c7, c8, c9, c10⟩ := rbox_of (HALL.out _ HX.out).1; obtain ⟨d0, d1, d2, d3, d4, d5, d6, d7, d8, d9, d10⟩ := rbox_of (HALL.out _ HX.out).2.1; clear hgr)
  go_upto_region 10 with (go_at_call 26; refine (SpoilInts_any _ _ _ _ _ _ HXI.out).mono ?_; rintro e w10 ⟨rfl, hgr⟩; have HXN := Lib.hid (HX.out.grown hgr HX.out.size (fun k hk => (HXI.out.lt k hk).1)); clear HX c0 c1 c2 c3 c4 c5 c6 c7 c8 c9 c10 d0 d1 d2 d3 d4 d5 d6 d7 d8 d9 d10; have HX := HXN; clear HXN; obtain ⟨c0, c1, c2, c3, c4, c5, c6, c7, c8, c9, c10⟩ := rbox_of (HALL.out _ HX.out).1; obtain ⟨d0, d1, d2, d3, d4, d5, d6, d7, d8, d9, d10⟩ := rbox_of (HALL.out _ HX.out).2.1; clear hgr)
  go_wp2_with (first
    | (go_at_call 27; refine (HKEPT.out _ _ _ _ _ (HALL.out _ HX.out).2.2.2.1 (HALL.out _ HX.out).2.2.1).mono ?_; rintro e w11 ⟨rfl, hb⟩; have HXN := Lib.hid (bt HX.out (Nat.le_refl _) hb); clear HX c0 c1 c2 c3 c4 c5 c6 c7 c8 c9 c10 d0 d1 d2 d3 d4 d5 d6 d7 d8 d9 d10; have HX := HXN; clear HXN; obtain ⟨c0, c1, c2, c3, c4, c5, c6, c7, c8, c9, c10⟩ := rbox_of (HALL.out _ HX.out).1; obtain ⟨d0, d1, d2, d3, d4, d5, d6, d7, d8, d9, d10⟩ := rbox_of (HALL.out _ HX.out).2.1; clear hb)
    | (go_at_call 44; refine (HKI.out _ _ _ _ (HALL.out _ HX.out).2.2.2.2.2.1 (HALL.out _ HX.out).2.2.2.2.1).mono ?_; rintro e w12 ⟨rfl, hb⟩; have HXN := Lib.hid (bt HX.out (Nat.le_refl _) hb); clear HX c0 c1 c2 c3 c4 c5 c6 c7 c8 c9 c10 d0 d1 d2 d3 d4 d5 d6 d7 d8 d9 d10; have HX := HXN; clear HXN; obtain ⟨c0, c1, c2, c3, c4, c5, c6, c7, c8, c9, c10⟩ := rbox_of (HALL.out _ HX.out).1; obtain ⟨d0, d1, d2, d3, d4, d5, d6, d7, d8, d9, d10⟩ := rbox_of (HALL.out _ HX.out).2.1; clear hb)
    | (go_at_call 45; refine (worksC_any _).mono ?_; rintro e w13 ⟨rfl, hb⟩; have HXN := Lib.hid (bt HX.out (Nat.le_refl _) hb); clear HX c0 c1 c2 c3 c4 c5 c6 c7 c8 c9 c10 d0 d1 d2 d3 d4 d5 d6 d7 d8 d9 d10; have HX := HXN; clear HXN; obtain ⟨c0, c1, c2, c3, c4, c5, c6, c7, c8, c9, c10⟩ := rbox_of (HALL.out _ HX.out).1; obtain ⟨d0, d1, d2, d3, d4, d5, d6, d7, d8, d9, d10⟩ := rbox_of (HALL.out _ HX.out).2.1; clear hb))
  go_ret
  exact ⟨rfl, (HALL.out _ HX.out).2.2.2.2.2.2⟩
end Go.Proofs.Ytahjmkdpnkffhaa

/- The walk of EncodeGates: for whatever circuit, literal and literals the statement's Go function answers true, and nothing that was there has turned. -/
import Derived.Test.YtdodhbfplglbkaaEncX
import Derived.Test.YtdodhbfplglbkaaLendC
import Derived.Test.YtdodhbfplglbkaaKeptC
namespace Go.Proofs.Ytdodhbfplglbkaa
open Go.RowKit Go.Maps

theorem sl_formG {E : Type} {k : Nat} {enc : E → List Value} {w : World} {v : Value} {zs : List E} (h : RowE k enc w v zs) : ∃ A n c, v = .slice A n c := by
  obtain ⟨A, c, e, _⟩ := h
  exact ⟨A, _, c, e⟩
theorem sl_formLG {w : World} {v : Value} {zss : List (List Int)} (h : Lists w v zss) : ∃ A n c, v = .slice A n c := by
  obtain ⟨us, hr, _⟩ := h
  exact sl_formG hr

set_option maxHeartbeats 20000000 in
set_option maxRecDepth 100000 in
theorem encodeGates_walk (w : World) (V : CV) (C : Circ) (y : Int) (v : Value) (L : List Int) (h : C.In w V) (ok : C.Ok) (rm : C.Room ∧ C.Reach) (hv : RowE 1 encI w v L) (hlb : L.length * 8 ≤ 140737488351232) :
    Calls Try.prog 3 #[V.val C.max, .int .i64 y, v] w fun e w' => e = .returned (.bool true) ∧ Below w.heap.size w w' := by
  obtain ⟨rm, re⟩ := rm
  have hb0 := (Below.refl w.heap.size w).alloc (Nat.le_refl _) (.cells (V.cells C.max) 29)
  have HLEND := Lib.hid (LendCircuit_any (w.alloc (.cells (V.cells C.max) 29)) V C (h.below hb0) rm ⟨re.i, re.o, re.b, re.c, re.f, re.l, re.a⟩)
  have HIN0 := Lib.hid (h.below hb0)
  have HB0 := Lib.hid hb0
  have HS0 := Lib.hid hv
  have hbx0 := Blk.new w 29 (V.cells C.max)
  obtain ⟨sA, sn, sc, hse⟩ := sl_formG hv
  subst hse
  obtain ⟨Vi, Vl, Vo, Vb, Vc, Vj, Vf, Va, Vs, Vt⟩ := V
  obtain ⟨m, hmm⟩ : ∃ m, C.max = m := ⟨_, rfl⟩
  have HLT := Lib.hid (fun (wx : World) (hx : RowE 1 encI wx (.slice sA sn sc) L) => LendInts_any wx _ L hx hlb)
  have HGA := Lib.hid (fun (wx : World) (U : CV) (hx : C.In wx U) => Gates_any wx U C hx ok)
  have HRG := Lib.hid (fun (wx : World) (hx : C.In wx ⟨Vi, Vl, Vo, Vb, Vc, Vj, Vf, Va, Vs, Vt⟩) => rGates_any wx _ C hx ok re.t)
  have HLI := Lib.hid (fun (wx : World) (U : CV) (hx : C.In wx U) => eLit_any wx U C y hx ok)
  have HRL := Lib.hid (fun (wx : World) (hx : C.In wx ⟨Vi, Vl, Vo, Vb, Vc, Vj, Vf, Va, Vs, Vt⟩) => rLit_any wx _ C y hx ok re.t)
  have HCO := Lib.hid (fun (wx : World) (U : CV) (u : Value) (hx : C.In wx U) (hy : RowE 1 encI wx u L) => Cone_any wx U C u L hx ok hy)
  have HRC := Lib.hid (fun (wx : World) (hx : C.In wx ⟨Vi, Vl, Vo, Vb, Vc, Vj, Vf, Va, Vs, Vt⟩) (hy : RowE 1 encI wx (.slice sA sn sc) L) => rCone_any wx _ C _ L hx ok re.t hy)
  have HKEPT := Lib.hid (fun (wx : World) (B : Nat) (V U : CV) (us : List Value) (hl : LentC wx B C us V) (hx : C.In wx U) => KeptCircuit_any wx B V U C us hl hx)
  have HKI := Lib.hid (fun (wx : World) (B : Nat) (u y : Value) (hl : Lent wx B u L) (hx : Ints wx y L) => KeptInts_any wx B u y L hl hx)
  generalize varsF C = gn at *
  generalize gatesF C = gf at *
  generalize (checkR C).2 = ge at *
  generalize litF C y = lf at *
  generalize fitL C y = le at *
  generalize coneN C L = qn at *
  generalize coneF C L = qf at *
  generalize fitK C L = qe at *
  have HSA := Lib.hid (fun (wx : World) (v u : Value) (hx : Lists wx v gf) (hy : Lists wx u gf) => SameCnf_any wx v u gf gf gn gn hx hy)
  rw [show (decide (gn = gn) && decide (gf = gf)) = true by simp] at HSA
  have HSQ := Lib.hid (fun (wx : World) (v u : Value) (hx : Lists wx v qf) (hy : Lists wx u qf) => SameCnf_any wx v u qf qf qn qn hx hy)
  rw [show (decide (qn = qn) && decide (qf = qf)) = true by simp] at HSQ
  rw [hmm] at HLEND HIN0 HB0 hbx0 HKEPT HGA HRG HLI HRL HCO HRC
  rw [hmm]
  have HBX0 := Lib.hid hbx0
  obtain ⟨c0, c1, c2, c3, c4, c5, c6, c7, c8, c9, c10⟩ := rbox_of hbx0
  clear h ok rm re hb0 hmm hbx0 hv hlb
  go_enter Try.func3, Try.ntmps3
  go_upto_region 2 with (first
    | (go_at_call 9; refine HLEND.out.mono ?_; rintro e w1 ⟨U, us, rfl, hb1, hl1⟩; obtain ⟨Ui, Ul, Uo, Ub, Uc, Uj, Uf, Ua, Us, Ut⟩ := U; obtain ⟨A0, n0, k0, hf0⟩ := sl_formG hl1.in_.i; simp only at hf0; subst hf0; obtain ⟨A1, n1, k1, hf1⟩ := sl_formG hl1.in_.l; simp only at hf1; subst hf1; obtain ⟨A2, n2, k2, hf2⟩ := sl_formG hl1.in_.o; simp only at hf2; subst hf2; obtain ⟨A3, n3, k3, hf3⟩ := sl_formG hl1.in_.b; simp only at hf3; subst hf3; obtain ⟨A4, n4, k4, hf4⟩ := sl_formG hl1.in_.c; simp only at hf4; subst hf4; obtain ⟨A5, n5, k5, hf5⟩ := sl_formLG hl1.in_.j; simp only at hf5; subst hf5; obtain ⟨A6, n6, k6, hf6⟩ := sl_formG hl1.in_.f; simp only at hf6; subst hf6; obtain ⟨A7, n7, k7, hf7⟩ := sl_formG hl1.in_.a; simp only at hf7; subst hf7; obtain ⟨A8, n8, k8, hf8⟩ := sl_formG hl1.in_.s; simp only at hf8; subst hf8; obtain ⟨A9, n9, k9, hf9⟩ := sl_formG hl1.in_.t; simp only at hf9; subst hf9; have HL1 := Lib.hid hl1; have HB1 := Lib.hid hb1; clear hb1 hl1 c0 c1 c2 c3 c4 c5 c6 c7 c8 c9 c10)
    | (go_at_call 10; refine (HLT.out _ ((HS0.out.below HB0.out).below HB1.out)).mono ?_; rintro e w2 ⟨lv, rfl, hlr, hb2⟩; obtain ⟨lA, ln, lc, hle⟩ := sl_formG hlr.reads; subst hle; have HLR := Lib.hid hlr; have HB2 := Lib.hid hb2; clear hlr hb2))
  have HALL : Hid (∀ wz, Below (w2.alloc (.cells #[.int .i64 m, .slice A0 n0 k0, .slice A1 n1 k1, .slice A2 n2 k2, .slice A3 n3 k3, .slice A4 n4 k4, .slice A5 n5 k5, .slice A6 n6 k6, .slice A7 n7 k7, .slice A8 n8 k8, .slice A9 n9 k9] 29)).heap.size (w2.alloc (.cells #[.int .i64 m, .slice A0 n0 k0, .slice A1 n1 k1, .slice A2 n2 k2, .slice A3 n3 k3, .slice A4 n4 k4, .slice A5 n5 k5, .slice A6 n6 k6, .slice A7 n7 k7, .slice A8 n8 k8, .slice A9 n9 k9] 29)) wz → Blk wz w.heap.size 29 #[.int .i64 m, Vi, Vl, Vo, Vb, Vc, Vj, Vf, Va, Vs, Vt] ∧ Blk wz w2.heap.size 29 #[.int .i64 m, .slice A0 n0 k0, .slice A1 n1 k1, .slice A2 n2 k2, .slice A3 n3 k3, .slice A4 n4 k4, .slice A5 n5 k5, .slice A6 n6 k6, .slice A7 n7 k7, .slice A8 n8 k8, .slice A9 n9 k9] ∧ C.In wz ⟨Vi, Vl, Vo, Vb, Vc, Vj, Vf, Va, Vs, Vt⟩ ∧ LentC wz (w.alloc (.cells #[.int .i64 m, Vi, Vl, Vo, Vb, Vc, Vj, Vf, Va, Vs, Vt] 29)).heap.size C us ⟨.slice A0 n0 k0, .slice A1 n1 k1, .slice A2 n2 k2, .slice A3 n3 k3, .slice A4 n4 k4, .slice A5 n5 k5, .slice A6 n6 k6, .slice A7 n7 k7, .slice A8 n8 k8, .slice A9 n9 k9⟩ ∧ RowE 1 encI wz (.slice sA sn sc) L ∧ Lent wz w1.heap.size (.slice lA ln lc) L ∧ Below w.heap.size w wz) := Lib.hid (fun wz hb => by
    have h2 : Below w2.heap.size w2 wz := bt ((Below.refl w2.heap.size w2).alloc (Nat.le_refl _) _) (Nat.le_refl _) hb
    have h3 : Below w1.heap.size w1 wz := bt HB2.out (Nat.le_refl _) h2
    have h4 : Below (w.alloc (.cells #[.int .i64 m, Vi, Vl, Vo, Vb, Vc, Vj, Vf, Va, Vs, Vt] 29)).heap.size (w.alloc (.cells #[.int .i64 m, Vi, Vl, Vo, Vb, Vc, Vj, Vf, Va, Vs, Vt] 29)) wz := bt HB1.out (Nat.le_refl _) h3
    have h5 := HB0.out.trans (h4.mono (by simp))
    exact ⟨HBX0.out.below h4 HBX0.out.lt, (Blk.new w2 _ _).below hb (by simp), HIN0.out.below h4, HL1.out.below h3, HS0.out.below h5, HLR.out.below h2, h5⟩)
  have HX : Hid (Below (w2.alloc (.cells #[.int .i64 m, .slice A0 n0 k0, .slice A1 n1 k1, .slice A2 n2 k2, .slice A3 n3 k3, .slice A4 n4 k4, .slice A5 n5 k5, .slice A6 n6 k6, .slice A7 n7 k7, .slice A8 n8 k8, .slice A9 n9 k9] 29)).heap.size (w2.alloc (.cells #[.int .i64 m, .slice A0 n0 k0, .slice A1 n1 k1, .slice A2 n2 k2, .slice A3 n3 k3, .slice A4 n4 k4, .slice A5 n5 k5, .slice A6 n6 k6, .slice A7 n7 k7, .slice A8 n8 k8, .slice A9 n9 k9] 29)) (w2.alloc (.cells #[.int .i64 m, .slice A0 n0 k0, .slice A1 n1 k1, .slice A2 n2 k2, .slice A3 n3 k3, .slice A4 n4 k4, .slice A5 n5 k5, .slice A6 n6 k6, .slice A7 n7 k7, .slice A8 n8 k8, .slice A9 n9 k9] 29))) := Lib.hid (Below.refl _ _)
  clear HL1 HB1 HB2 HLEND HLT HIN0 HB0 HBX0 HLR HS0
  generalize hg2 : w2.heap.size = g2 at *
  generalize w2.alloc (.cells #[.int .i64 m, .slice A0 n0 k0, .slice A1 n1 k1, .slice A2 n2 k2, .slice A3 n3 k3, .slice A4 n4 k4, .slice A5 n5 k5, .slice A6 n6 k6, .slice A7 n7 k7, .slice A8 n8 k8, .slice A9 n9 k9] 29) = X at *
  clear hg2
  obtain ⟨c0, c1, c2, c3, c4, c5, c6, c7, c8, c9, c10⟩ := rbox_of (HALL.out _ HX.out).1
  obtain ⟨d0, d1, d2, d3, d4, d5, d6, d7, d8, d9, d10⟩ := rbox_of (HALL.out _ HX.out).2.1
  go_upto_region 3 with (go_at_call 11; refine (HGA.out _ _ (HALL.out _ HX.out).2.2.2.1.in_).mono ?_; rintro e w3 ⟨hb, v, usa, rfl, ho⟩; obtain ⟨aA, ac, hve⟩ := own_slice_k ho.own; subst hve; have Ha := Lib.hid (ho.base HX.out.size); clear ho; have HXN := Lib.hid (bt HX.out (Nat.le_refl _) hb); clear HX c0 c1 c2 c3 c4 c5 c6 c7 c8 c9 c10 d0 d1 d2 d3 d4 d5 d6 d7 d8 d9 d10; have HX := HXN; clear HXN; obtain ⟨c0, c1, c2, c3, c4, c5, c6, c7, c8, c9, c10⟩ := rbox_of (HALL.out _ HX.out).1; obtain ⟨d0, d1, d2, d3, d4, d5, d6, d7, d8, d9, d10⟩ := rbox_of (HALL.out _ HX.out).2.1; clear hb)
  have HXN := Lib.hid (HX.out.alloc HX.out.size (.cells #[.int .i64 gn, .slice aA usa.length ac] 34))
  have Ta := Lib.hid (Ha.out.below ((Below.refl w3.heap.size w3).alloc (Nat.le_refl _) (.cells #[.int .i64 gn, .slice aA usa.length ac] 34)))
  have HFa := Lib.hid (Blk.new w3 34 #[.int .i64 gn, .slice aA usa.length ac])
  clear HX c0 c1 c2 c3 c4 c5 c6 c7 c8 c9 c10 d0 d1 d2 d3 d4 d5 d6 d7 d8 d9 d10 Ha 
  have HX := HXN
  clear HXN
  have Ha := Ta
  clear Ta
  generalize w3.heap.size = ga at *
  generalize w3.alloc (.cells #[.int .i64 gn, .slice aA usa.length ac] 34) = Wa at *
  have HA0 := Ha
  have HW := Lib.hid (Below.refl Wa.heap.size Wa)
  have a0 := HFa.out.cell 0
  have a1 := HFa.out.cell 1
  simp only [List.getElem?_toArray, List.getElem?_cons_zero, List.getElem?_cons_succ] at a0 a1
  obtain ⟨c0, c1, c2, c3, c4, c5, c6, c7, c8, c9, c10⟩ := rbox_of (HALL.out _ HX.out).1
  obtain ⟨d0, d1, d2, d3, d4, d5, d6, d7, d8, d9, d10⟩ := rbox_of (HALL.out _ HX.out).2.1
  go_upto_region 4 with (go_at_call 11; refine (HGA.out _ _ (HALL.out _ HX.out).2.2.2.1.in_).mono ?_; rintro e w4 ⟨hb, v, usg, rfl, ho⟩; obtain ⟨gA, gc, hve⟩ := own_slice_k ho.own; subst hve; have Hg := Lib.hid (ho.base HW.out.size); clear ho; have T := Lib.hid (Ha.out.below hb); clear Ha; have Ha := T; clear T; have T := Lib.hid (HFa.out.below hb HFa.out.lt); clear HFa a0 a1; have HFa := T; clear T; have a0 := HFa.out.cell 0; have a1 := HFa.out.cell 1; simp only [List.getElem?_toArray, List.getElem?_cons_zero, List.getElem?_cons_succ] at a0 a1; have T := Lib.hid (bt HW.out (Nat.le_refl _) hb); clear HW; have HW := T; clear T; have HXN := Lib.hid (bt HX.out (Nat.le_refl _) hb); clear HX c0 c1 c2 c3 c4 c5 c6 c7 c8 c9 c10 d0 d1 d2 d3 d4 d5 d6 d7 d8 d9 d10; have HX := HXN; clear HXN; obtain ⟨c0, c1, c2, c3, c4, c5, c6, c7, c8, c9, c10⟩ := rbox_of (HALL.out _ HX.out).1; obtain ⟨d0, d1, d2, d3, d4, d5, d6, d7, d8, d9, d10⟩ := rbox_of (HALL.out _ HX.out).2.1; clear hb)
  have HXN := Lib.hid (HX.out.alloc HX.out.size (.cells #[.int .i64 gn, .slice gA usg.length gc] 34))
  have Ta := Lib.hid (Ha.out.below ((Below.refl w4.heap.size w4).alloc (Nat.le_refl _) (.cells #[.int .i64 gn, .slice gA usg.length gc] 34)))
  have Tg := Lib.hid (Hg.out.below ((Below.refl w4.heap.size w4).alloc (Nat.le_refl _) (.cells #[.int .i64 gn, .slice gA usg.length gc] 34)))
  have TFa := Lib.hid (HFa.out.alloc (.cells #[.int .i64 gn, .slice gA usg.length gc] 34))
  have HFg := Lib.hid (Blk.new w4 34 #[.int .i64 gn, .slice gA usg.length gc])
  have HWN := Lib.hid (HW.out.alloc HW.out.size (.cells #[.int .i64 gn, .slice gA usg.length gc] 34))
  have HGg := Lib.hid HW.out.size
  clear HX c0 c1 c2 c3 c4 c5 c6 c7 c8 c9 c10 d0 d1 d2 d3 d4 d5 d6 d7 d8 d9 d10 Ha Hg HFa a0 a1 HW
  have HX := HXN
  clear HXN
  have Ha := Ta
  clear Ta
  have Hg := Tg
  clear Tg
  have HFa := TFa
  clear TFa
  have HW := HWN
  clear HWN
  generalize w4.heap.size = gg at *
  generalize w4.alloc (.cells #[.int .i64 gn, .slice gA usg.length gc] 34) = Wg at *
  have a0 := HFa.out.cell 0
  have a1 := HFa.out.cell 1
  simp only [List.getElem?_toArray, List.getElem?_cons_zero, List.getElem?_cons_succ] at a0 a1
  have g0 := HFg.out.cell 0
  have g1 := HFg.out.cell 1
  simp only [List.getElem?_toArray, List.getElem?_cons_zero, List.getElem?_cons_succ] at g0 g1
  obtain ⟨c0, c1, c2, c3, c4, c5, c6, c7, c8, c9, c10⟩ := rbox_of (HALL.out _ HX.out).1
  obtain ⟨d0, d1, d2, d3, d4, d5, d6, d7, d8, d9, d10⟩ := rbox_of (HALL.out _ HX.out).2.1
  go_upto_region 5 with (go_at_call 12; refine (HRG.out _ (HALL.out _ HX.out).2.2.1).mono ?_; rintro e w5 ⟨hb, v, usb, rfl, ho⟩; obtain ⟨bA, bc, hve⟩ := own_slice_k ho.own; subst hve; have Hb := Lib.hid (ho.base HW.out.size); clear ho; have T := Lib.hid (Ha.out.below hb); clear Ha; have Ha := T; clear T; have T := Lib.hid (Hg.out.below hb); clear Hg; have Hg := T; clear T; have T := Lib.hid (HFa.out.below hb HFa.out.lt); clear HFa a0 a1; have HFa := T; clear T; have a0 := HFa.out.cell 0; have a1 := HFa.out.cell 1; simp only [List.getElem?_toArray, List.getElem?_cons_zero, List.getElem?_cons_succ] at a0 a1; have T := Lib.hid (HFg.out.below hb HFg.out.lt); clear HFg g0 g1; have HFg := T; clear T; have g0 := HFg.out.cell 0; have g1 := HFg.out.cell 1; simp only [List.getElem?_toArray, List.getElem?_cons_zero, List.getElem?_cons_succ] at g0 g1; have T := Lib.hid (bt HW.out (Nat.le_refl _) hb); clear HW; have HW := T; clear T; have HXN := Lib.hid (bt HX.out (Nat.le_refl _) hb); clear HX c0 c1 c2 c3 c4 c5 c6 c7 c8 c9 c10 d0 d1 d2 d3 d4 d5 d6 d7 d8 d9 d10; have HX := HXN; clear HXN; obtain ⟨c0, c1, c2, c3, c4, c5, c6, c7, c8, c9, c10⟩ := rbox_of (HALL.out _ HX.out).1; obtain ⟨d0, d1, d2, d3, d4, d5, d6, d7, d8, d9, d10⟩ := rbox_of (HALL.out _ HX.out).2.1; clear hb)
  have HXN := Lib.hid (HX.out.alloc HX.out.size (.cells #[.int .i64 gn, .slice bA usb.length bc] 34))
  have Ta := Lib.hid (Ha.out.below ((Below.refl w5.heap.size w5).alloc (Nat.le_refl _) (.cells #[.int .i64 gn, .slice bA usb.length bc] 34)))
  have Tg := Lib.hid (Hg.out.below ((Below.refl w5.heap.size w5).alloc (Nat.le_refl _) (.cells #[.int .i64 gn, .slice bA usb.length bc] 34)))
  have Tb := Lib.hid (Hb.out.below ((Below.refl w5.heap.size w5).alloc (Nat.le_refl _) (.cells #[.int .i64 gn, .slice bA usb.length bc] 34)))
  have TFa := Lib.hid (HFa.out.alloc (.cells #[.int .i64 gn, .slice bA usb.length bc] 34))
  have TFg := Lib.hid (HFg.out.alloc (.cells #[.int .i64 gn, .slice bA usb.length bc] 34))
  have HFb := Lib.hid (Blk.new w5 34 #[.int .i64 gn, .slice bA usb.length bc])
  have HWN := Lib.hid (HW.out.alloc HW.out.size (.cells #[.int .i64 gn, .slice bA usb.length bc] 34))
  have HGb := Lib.hid HW.out.size
  clear HX c0 c1 c2 c3 c4 c5 c6 c7 c8 c9 c10 d0 d1 d2 d3 d4 d5 d6 d7 d8 d9 d10 Ha Hg Hb HFa a0 a1 HFg g0 g1 HW
  have HX := HXN
  clear HXN
  have Ha := Ta
  clear Ta
  have Hg := Tg
  clear Tg
  have Hb := Tb
  clear Tb
  have HFa := TFa
  clear TFa
  have HFg := TFg
  clear TFg
  have HW := HWN
  clear HWN
  generalize w5.heap.size = gb at *
  generalize w5.alloc (.cells #[.int .i64 gn, .slice bA usb.length bc] 34) = Wb at *
  have a0 := HFa.out.cell 0
  have a1 := HFa.out.cell 1
  simp only [List.getElem?_toArray, List.getElem?_cons_zero, List.getElem?_cons_succ] at a0 a1
  have g0 := HFg.out.cell 0
  have g1 := HFg.out.cell 1
  simp only [List.getElem?_toArray, List.getElem?_cons_zero, List.getElem?_cons_succ] at g0 g1
  have b0 := HFb.out.cell 0
  have b1 := HFb.out.cell 1
  simp only [List.getElem?_toArray, List.getElem?_cons_zero, List.getElem?_cons_succ] at b0 b1
  obtain ⟨c0, c1, c2, c3, c4, c5, c6, c7, c8, c9, c10⟩ := rbox_of (HALL.out _ HX.out).1
  obtain ⟨d0, d1, d2, d3, d4, d5, d6, d7, d8, d9, d10⟩ := rbox_of (HALL.out _ HX.out).2.1
  go_upto_region 6 with (go_at_call 13; refine (HLI.out _ _ (HALL.out _ HX.out).2.2.2.1.in_).mono ?_; rintro e w6 ⟨rfl, hb⟩; have T := Lib.hid (Ha.out.below hb); clear Ha; have Ha := T; clear T; have T := Lib.hid (Hg.out.below hb); clear Hg; have Hg := T; clear T; have T := Lib.hid (Hb.out.below hb); clear Hb; have Hb := T; clear T; have T := Lib.hid (HFa.out.below hb HFa.out.lt); clear HFa a0 a1; have HFa := T; clear T; have a0 := HFa.out.cell 0; have a1 := HFa.out.cell 1; simp only [List.getElem?_toArray, List.getElem?_cons_zero, List.getElem?_cons_succ] at a0 a1; have T := Lib.hid (HFg.out.below hb HFg.out.lt); clear HFg g0 g1; have HFg := T; clear T; have g0 := HFg.out.cell 0; have g1 := HFg.out.cell 1; simp only [List.getElem?_toArray, List.getElem?_cons_zero, List.getElem?_cons_succ] at g0 g1; have T := Lib.hid (HFb.out.below hb HFb.out.lt); clear HFb b0 b1; have HFb := T; clear T; have b0 := HFb.out.cell 0; have b1 := HFb.out.cell 1; simp only [List.getElem?_toArray, List.getElem?_cons_zero, List.getElem?_cons_succ] at b0 b1; have T := Lib.hid (bt HW.out (Nat.le_refl _) hb); clear HW; have HW := T; clear T; have HXN := Lib.hid (bt HX.out (Nat.le_refl _) hb); clear HX c0 c1 c2 c3 c4 c5 c6 c7 c8 c9 c10 d0 d1 d2 d3 d4 d5 d6 d7 d8 d9 d10; have HX := HXN; clear HXN; obtain ⟨c0, c1, c2, c3, c4, c5, c6, c7, c8, c9, c10⟩ := rbox_of (HALL.out _ HX.out).1; obtain ⟨d0, d1, d2, d3, d4, d5, d6, d7, d8, d9, d10⟩ := rbox_of (HALL.out _ HX.out).2.1; clear hb)
  go_upto_region 7 with (go_at_call 14; refine (HRL.out _ (HALL.out _ HX.out).2.2.1).mono ?_; rintro e w7 ⟨rfl, hb⟩; have T := Lib.hid (Ha.out.below hb); clear Ha; have Ha := T; clear T; have T := Lib.hid (Hg.out.below hb); clear Hg; have Hg := T; clear T; have T := Lib.hid (Hb.out.below hb); clear Hb; have Hb := T; clear T; have T := Lib.hid (HFa.out.below hb HFa.out.lt); clear HFa a0 a1; have HFa := T; clear T; have a0 := HFa.out.cell 0; have a1 := HFa.out.cell 1; simp only [List.getElem?_toArray, List.getElem?_cons_zero, List.getElem?_cons_succ] at a0 a1; have T := Lib.hid (HFg.out.below hb HFg.out.lt); clear HFg g0 g1; have HFg := T; clear T; have g0 := HFg.out.cell 0; have g1 := HFg.out.cell 1; simp only [List.getElem?_toArray, List.getElem?_cons_zero, List.getElem?_cons_succ] at g0 g1; have T := Lib.hid (HFb.out.below hb HFb.out.lt); clear HFb b0 b1; have HFb := T; clear T; have b0 := HFb.out.cell 0; have b1 := HFb.out.cell 1; simp only [List.getElem?_toArray, List.getElem?_cons_zero, List.getElem?_cons_succ] at b0 b1; have T := Lib.hid (bt HW.out (Nat.le_refl _) hb); clear HW; have HW := T; clear T; have HXN := Lib.hid (bt HX.out (Nat.le_refl _) hb); clear HX c0 c1 c2 c3 c4 c5 c6 c7 c8 c9 c10 d0 d1 d2 d3 d4 d5 d6 d7 d8 d9 d10; have HX := HXN; clear HXN; obtain ⟨c0, c1, c2, c3, c4, c5, c6, c7, c8, c9, c10⟩ := rbox_of (HALL.out _ HX.out).1; obtain ⟨d0, d1, d2, d3, d4, d5, d6, d7, d8, d9, d10⟩ := rbox_of (HALL.out _ HX.out).2.1; clear hb)
  go_upto_region 8 with (go_at_call 15; refine (HCO.out _ _ _ (HALL.out _ HX.out).2.2.2.1.in_ (HALL.out _ HX.out).2.2.2.2.2.1.reads).mono ?_; rintro e w8 ⟨hb, v, usp, rfl, ho⟩; obtain ⟨pA, pc, hve⟩ := own_slice_k ho.own; subst hve; have Hp := Lib.hid (ho.base HW.out.size); clear ho; have T := Lib.hid (Ha.out.below hb); clear Ha; have Ha := T; clear T; have T := Lib.hid (Hg.out.below hb); clear Hg; have Hg := T; clear T; have T := Lib.hid (Hb.out.below hb); clear Hb; have Hb := T; clear T; have T := Lib.hid (HFa.out.below hb HFa.out.lt); clear HFa a0 a1; have HFa := T; clear T; have a0 := HFa.out.cell 0; have a1 := HFa.out.cell 1; simp only [List.getElem?_toArray, List.getElem?_cons_zero, List.getElem?_cons_succ] at a0 a1; have T := Lib.hid (HFg.out.below hb HFg.out.lt); clear HFg g0 g1; have HFg := T; clear T; have g0 := HFg.out.cell 0; have g1 := HFg.out.cell 1; simp only [List.getElem?_toArray, List.getElem?_cons_zero, List.getElem?_cons_succ] at g0 g1; have T := Lib.hid (HFb.out.below hb HFb.out.lt); clear HFb b0 b1; have HFb := T; clear T; have b0 := HFb.out.cell 0; have b1 := HFb.out.cell 1; simp only [List.getElem?_toArray, List.getElem?_cons_zero, List.getElem?_cons_succ] at b0 b1; have T := Lib.hid (bt HW.out (Nat.le_refl _) hb); clear HW; have HW := T; clear T; have HXN := Lib.hid (bt HX.out (Nat.le_refl _) hb); clear HX c0 c1 c2 c3 c4 c5 c6 c7 c8 c9 c10 d0 d1 d2 d3 d4 d5 d6 d7 d8 d9 d10; have HX := HXN; clear HXN; obtain ⟨c0, c1, c2, c3, c4, c5, c6, c7, c8, c9, c10⟩ := rbox_of (HALL.out _ HX.out).1; obtain ⟨d0, d1, d2, d3, d4, d5, d6, d7, d8, d9, d10⟩ := rbox_of (HALL.out _ HX.out).2.1; clear hb)
  have HXN := Lib.hid (HX.out.alloc HX.out.size (.cells #[.int .i64 qn, .slice pA usp.length pc] 34))
  have Ta := Lib.hid (Ha.out.below ((Below.refl w8.heap.size w8).alloc (Nat.le_refl _) (.cells #[.int .i64 qn, .slice pA usp.length pc] 34)))
  have Tg := Lib.hid (Hg.out.below ((Below.refl w8.heap.size w8).alloc (Nat.le_refl _) (.cells #[.int .i64 qn, .slice pA usp.length pc] 34)))
  have Tb := Lib.hid (Hb.out.below ((Below.refl w8.heap.size w8).alloc (Nat.le_refl _) (.cells #[.int .i64 qn, .slice pA usp.length pc] 34)))
  have Tp := Lib.hid (Hp.out.below ((Below.refl w8.heap.size w8).alloc (Nat.le_refl _) (.cells #[.int .i64 qn, .slice pA usp.length pc] 34)))
  have TFa := Lib.hid (HFa.out.alloc (.cells #[.int .i64 qn, .slice pA usp.length pc] 34))
  have TFg := Lib.hid (HFg.out.alloc (.cells #[.int .i64 qn, .slice pA usp.length pc] 34))
  have TFb := Lib.hid (HFb.out.alloc (.cells #[.int .i64 qn, .slice pA usp.length pc] 34))
  have HFp := Lib.hid (Blk.new w8 34 #[.int .i64 qn, .slice pA usp.length pc])
  have HWN := Lib.hid (HW.out.alloc HW.out.size (.cells #[.int .i64 qn, .slice pA usp.length pc] 34))
  have HGp := Lib.hid HW.out.size
  clear HX c0 c1 c2 c3 c4 c5 c6 c7 c8 c9 c10 d0 d1 d2 d3 d4 d5 d6 d7 d8 d9 d10 Ha Hg Hb Hp HFa a0 a1 HFg g0 g1 HFb b0 b1 HW
  have HX := HXN
  clear HXN
  have Ha := Ta
  clear Ta
  have Hg := Tg
  clear Tg
  have Hb := Tb
  clear Tb
  have Hp := Tp
  clear Tp
  have HFa := TFa
  clear TFa
  have HFg := TFg
  clear TFg
  have HFb := TFb
  clear TFb
  have HW := HWN
  clear HWN
  generalize w8.heap.size = gp at *
  generalize w8.alloc (.cells #[.int .i64 qn, .slice pA usp.length pc] 34) = Wp at *
  have a0 := HFa.out.cell 0
  have a1 := HFa.out.cell 1
  simp only [List.getElem?_toArray, List.getElem?_cons_zero, List.getElem?_cons_succ] at a0 a1
  have g0 := HFg.out.cell 0
  have g1 := HFg.out.cell 1
  simp only [List.getElem?_toArray, List.getElem?_cons_zero, List.getElem?_cons_succ] at g0 g1
  have b0 := HFb.out.cell 0
  have b1 := HFb.out.cell 1
  simp only [List.getElem?_toArray, List.getElem?_cons_zero, List.getElem?_cons_succ] at b0 b1
  have p0 := HFp.out.cell 0
  have p1 := HFp.out.cell 1
  simp only [List.getElem?_toArray, List.getElem?_cons_zero, List.getElem?_cons_succ] at p0 p1
  obtain ⟨c0, c1, c2, c3, c4, c5, c6, c7, c8, c9, c10⟩ := rbox_of (HALL.out _ HX.out).1
  obtain ⟨d0, d1, d2, d3, d4, d5, d6, d7, d8, d9, d10⟩ := rbox_of (HALL.out _ HX.out).2.1
  go_upto_region 9 with (go_at_call 16; refine (HRC.out _ (HALL.out _ HX.out).2.2.1 (HALL.out _ HX.out).2.2.2.2.1).mono ?_; rintro e w9 ⟨hb, v, usq, rfl, ho⟩; obtain ⟨qA, qc, hve⟩ := own_slice_k ho.own; subst hve; have Hq := Lib.hid (ho.base HW.out.size); clear ho; have T := Lib.hid (Ha.out.below hb); clear Ha; have Ha := T; clear T; have T := Lib.hid (Hg.out.below hb); clear Hg; have Hg := T; clear T; have T := Lib.hid (Hb.out.below hb); clear Hb; have Hb := T; clear T; have T := Lib.hid (Hp.out.below hb); clear Hp; have Hp := T; clear T; have T := Lib.hid (HFa.out.below hb HFa.out.lt); clear HFa a0 a1; have HFa := T; clear T; have a0 := HFa.out.cell 0; have a1 := HFa.out.cell 1; simp only [List.getElem?_toArray, List.getElem?_cons_zero, List.getElem?_cons_succ] at a0 a1; have T := Lib.hid (HFg.out.below hb HFg.out.lt); clear HFg g0 g1; have HFg := T; clear T; have g0 := HFg.out.cell 0; have g1 := HFg.out.cell 1; simp only [List.getElem?_toArray, List.getElem?_cons_zero, List.getElem?_cons_succ] at g0 g1; have T := Lib.hid (HFb.out.below hb HFb.out.lt); clear HFb b0 b1; have HFb := T; clear T; have b0 := HFb.out.cell 0; have b1 := HFb.out.cell 1; simp only [List.getElem?_toArray, List.getElem?_cons_zero, List.getElem?_cons_succ] at b0 b1; have T := Lib.hid (HFp.out.below hb HFp.out.lt); clear HFp p0 p1; have HFp := T; clear T; have p0 := HFp.out.cell 0; have p1 := HFp.out.cell 1; simp only [List.getElem?_toArray, List.getElem?_cons_zero, List.getElem?_cons_succ] at p0 p1; have T := Lib.hid (bt HW.out (Nat.le_refl _) hb); clear HW; have HW := T; clear T; have HXN := Lib.hid (bt HX.out (Nat.le_refl _) hb); clear HX c0 c1 c2 c3 c4 c5 c6 c7 c8 c9 c10 d0 d1 d2 d3 d4 d5 d6 d7 d8 d9 d10; have HX := HXN; clear HXN; obtain ⟨c0, c1, c2, c3, c4, c5, c6, c7, c8, c9, c10⟩ := rbox_of (HALL.out _ HX.out).1; obtain ⟨d0, d1, d2, d3, d4, d5, d6, d7, d8, d9, d10⟩ := rbox_of (HALL.out _ HX.out).2.1; clear hb)
  have HXN := Lib.hid (HX.out.alloc HX.out.size (.cells #[.int .i64 qn, .slice qA usq.length qc] 34))
  have Ta := Lib.hid (Ha.out.below ((Below.refl w9.heap.size w9).alloc (Nat.le_refl _) (.cells #[.int .i64 qn, .slice qA usq.length qc] 34)))
  have Tg := Lib.hid (Hg.out.below ((Below.refl w9.heap.size w9).alloc (Nat.le_refl _) (.cells #[.int .i64 qn, .slice qA usq.length qc] 34)))
  have Tb := Lib.hid (Hb.out.below ((Below.refl w9.heap.size w9).alloc (Nat.le_refl _) (.cells #[.int .i64 qn, .slice qA usq.length qc] 34)))
  have Tp := Lib.hid (Hp.out.below ((Below.refl w9.heap.size w9).alloc (Nat.le_refl _) (.cells #[.int .i64 qn, .slice qA usq.length qc] 34)))
  have Tq := Lib.hid (Hq.out.below ((Below.refl w9.heap.size w9).alloc (Nat.le_refl _) (.cells #[.int .i64 qn, .slice qA usq.length qc] 34)))
  have TFa := Lib.hid (HFa.out.alloc (.cells #[.int .i64 qn, .slice qA usq.length qc] 34))
  have TFg := Lib.hid (HFg.out.alloc (.cells #[.int .i64 qn, .slice qA usq.length qc] 34))
  have TFb := Lib.hid (HFb.out.alloc (.cells #[.int .i64 qn, .slice qA usq.length qc] 34))
  have TFp := Lib.hid (HFp.out.alloc (.cells #[.int .i64 qn, .slice qA usq.length qc] 34))
  have HFq := Lib.hid (Blk.new w9 34 #[.int .i64 qn, .slice qA usq.length qc])
  have HWN := Lib.hid (HW.out.alloc HW.out.size (.cells #[.int .i64 qn, .slice qA usq.length qc] 34))
  have HGq := Lib.hid HW.out.size
  clear HX c0 c1 c2 c3 c4 c5 c6 c7 c8 c9 c10 d0 d1 d2 d3 d4 d5 d6 d7 d8 d9 d10 Ha Hg Hb Hp Hq HFa a0 a1 HFg g0 g1 HFb b0 b1 HFp p0 p1 HW
  have HX := HXN
  clear HXN
  have Ha := Ta
  clear Ta
  have Hg := Tg
  clear Tg
  have Hb := Tb
  clear Tb
  have Hp := Tp
  clear Tp
  have Hq := Tq
  clear Tq
  have HFa := TFa
  clear TFa
  have HFg := TFg
  clear TFg
  have HFb := TFb
  clear TFb
  have HFp := TFp
  clear TFp
  have HW := HWN
  clear HWN
  generalize w9.heap.size = gq at *
  generalize w9.alloc (.cells #[.int .i64 qn, .slice qA usq.length qc] 34) = Wq at *
  have a0 := HFa.out.cell 0
  have a1 := HFa.out.cell 1
  simp only [List.getElem?_toArray, List.getElem?_cons_zero, List.getElem?_cons_succ] at a0 a1
  have g0 := HFg.out.cell 0
  have g1 := HFg.out.cell 1
  simp only [List.getElem?_toArray, List.getElem?_cons_zero, List.getElem?_cons_succ] at g0 g1
  have b0 := HFb.out.cell 0
  have b1 := HFb.out.cell 1
  simp only [List.getElem?_toArray, List.getElem?_cons_zero, List.getElem?_cons_succ] at b0 b1
  have p0 := HFp.out.cell 0
  have p1 := HFp.out.cell 1
  simp only [List.getElem?_toArray, List.getElem?_cons_zero, List.getElem?_cons_succ] at p0 p1
  have q0 := HFq.out.cell 0
  have q1 := HFq.out.cell 1
  simp only [List.getElem?_toArray, List.getElem?_cons_zero, List.getElem?_cons_succ] at q0 q1
  obtain ⟨c0, c1, c2, c3, c4, c5, c6, c7, c8, c9, c10⟩ := rbox_of (HALL.out _ HX.out).1
  obtain ⟨d0, d1, d2, d3, d4, d5, d6, d7, d8, d9, d10⟩ := rbox_of (HALL.out _ HX.out).2.1
  have hge : (ge != ge) = false := by simp
  have hle : (le != le) = false := by simp
  have hlf : (lf != lf) = false := by simp
  have hqe : (qe != qe) = false := by simp
  go_upto_region 11 with (first
    | (go_at_call_of 17 aA; refine (HSA.out _ _ _ Ha.out.lists Hb.out.lists).mono ?_; rintro e w10 ⟨rfl, hb⟩; have T := Lib.hid (Ha.out.below hb); clear Ha; have Ha := T; clear T; have T := Lib.hid (Hg.out.below hb); clear Hg; have Hg := T; clear T; have T := Lib.hid (Hb.out.below hb); clear Hb; have Hb := T; clear T; have T := Lib.hid (Hp.out.below hb); clear Hp; have Hp := T; clear T; have T := Lib.hid (Hq.out.below hb); clear Hq; have Hq := T; clear T; have T := Lib.hid (HFa.out.below hb HFa.out.lt); clear HFa a0 a1; have HFa := T; clear T; have a0 := HFa.out.cell 0; have a1 := HFa.out.cell 1; simp only [List.getElem?_toArray, List.getElem?_cons_zero, List.getElem?_cons_succ] at a0 a1; have T := Lib.hid (HFg.out.below hb HFg.out.lt); clear HFg g0 g1; have HFg := T; clear T; have g0 := HFg.out.cell 0; have g1 := HFg.out.cell 1; simp only [List.getElem?_toArray, List.getElem?_cons_zero, List.getElem?_cons_succ] at g0 g1; have T := Lib.hid (HFb.out.below hb HFb.out.lt); clear HFb b0 b1; have HFb := T; clear T; have b0 := HFb.out.cell 0; have b1 := HFb.out.cell 1; simp only [List.getElem?_toArray, List.getElem?_cons_zero, List.getElem?_cons_succ] at b0 b1; have T := Lib.hid (HFp.out.below hb HFp.out.lt); clear HFp p0 p1; have HFp := T; clear T; have p0 := HFp.out.cell 0; have p1 := HFp.out.cell 1; simp only [List.getElem?_toArray, List.getElem?_cons_zero, List.getElem?_cons_succ] at p0 p1; have T := Lib.hid (HFq.out.below hb HFq.out.lt); clear HFq q0 q1; have HFq := T; clear T; have q0 := HFq.out.cell 0; have q1 := HFq.out.cell 1; simp only [List.getElem?_toArray, List.getElem?_cons_zero, List.getElem?_cons_succ] at q0 q1; have T := Lib.hid (bt HW.out (Nat.le_refl _) hb); clear HW; have HW := T; clear T; have HXN := Lib.hid (bt HX.out (Nat.le_refl _) hb); clear HX c0 c1 c2 c3 c4 c5 c6 c7 c8 c9 c10 d0 d1 d2 d3 d4 d5 d6 d7 d8 d9 d10; have HX := HXN; clear HXN; obtain ⟨c0, c1, c2, c3, c4, c5, c6, c7, c8, c9, c10⟩ := rbox_of (HALL.out _ HX.out).1; obtain ⟨d0, d1, d2, d3, d4, d5, d6, d7, d8, d9, d10⟩ := rbox_of (HALL.out _ HX.out).2.1; clear hb)
    | (go_at_call_of 17 pA; refine (HSQ.out _ _ _ Hp.out.lists Hq.out.lists).mono ?_; rintro e w11 ⟨rfl, hb⟩; have T := Lib.hid (Ha.out.below hb); clear Ha; have Ha := T; clear T; have T := Lib.hid (Hg.out.below hb); clear Hg; have Hg := T; clear T; have T := Lib.hid (Hb.out.below hb); clear Hb; have Hb := T; clear T; have T := Lib.hid (Hp.out.below hb); clear Hp; have Hp := T; clear T; have T := Lib.hid (Hq.out.below hb); clear Hq; have Hq := T; clear T; have T := Lib.hid (HFa.out.below hb HFa.out.lt); clear HFa a0 a1; have HFa := T; clear T; have a0 := HFa.out.cell 0; have a1 := HFa.out.cell 1; simp only [List.getElem?_toArray, List.getElem?_cons_zero, List.getElem?_cons_succ] at a0 a1; have T := Lib.hid (HFg.out.below hb HFg.out.lt); clear HFg g0 g1; have HFg := T; clear T; have g0 := HFg.out.cell 0; have g1 := HFg.out.cell 1; simp only [List.getElem?_toArray, List.getElem?_cons_zero, List.getElem?_cons_succ] at g0 g1; have T := Lib.hid (HFb.out.below hb HFb.out.lt); clear HFb b0 b1; have HFb := T; clear T; have b0 := HFb.out.cell 0; have b1 := HFb.out.cell 1; simp only [List.getElem?_toArray, List.getElem?_cons_zero, List.getElem?_cons_succ] at b0 b1; have T := Lib.hid (HFp.out.below hb HFp.out.lt); clear HFp p0 p1; have HFp := T; clear T; have p0 := HFp.out.cell 0; have p1 := HFp.out.cell 1; simp only [List.getElem?_toArray, List.getElem?_cons_zero, List.getElem?_cons_succ] at p0 p1; have T := Lib.hid (HFq.out.below hb HFq.out.lt); clear HFq q0 q1; have HFq := T; clear T; have q0 := HFq.out.cell 0; have q1 := HFq.out.cell 1; simp only [List.getElem?_toArray, List.getElem?_cons_zero, List.getElem?_cons_succ] at q0 q1; have T := Lib.hid (bt HW.out (Nat.le_refl _) hb); clear HW; have HW := T; clear T; have HXN := Lib.hid (bt HX.out (Nat.le_refl _) hb); clear HX c0 c1 c2 c3 c4 c5 c6 c7 c8 c9 c10 d0 d1 d2 d3 d4 d5 d6 d7 d8 d9 d10; have HX := HXN; clear HXN; obtain ⟨c0, c1, c2, c3, c4, c5, c6, c7, c8, c9, c10⟩ := rbox_of (HALL.out _ HX.out).1; obtain ⟨d0, d1, d2, d3, d4, d5, d6, d7, d8, d9, d10⟩ := rbox_of (HALL.out _ HX.out).2.1; clear hb))
  go_upto_region 12 with (go_at_call 18; refine (SpoilCnf_any Wa _ _ _ _ _ _ _ HA0.out Ha.out HW.out.size).mono ?_; rintro e w12 ⟨rfl, hk⟩; have T := Lib.hid (Hg.out.kept hk (fun _ h => h.2)); clear Hg; have Hg := T; clear T; have T := Lib.hid (Hb.out.kept hk (fun _ h => h.2)); clear Hb; have Hb := T; clear T; have T := Lib.hid ((hk.blk gg HFg.out.lt (fun e => Nat.lt_irrefl _ (Nat.lt_of_lt_of_le e.2 HGg.out))).trans HFg.out); clear HFg g0 g1; have HFg : Hid (Blk w12 gg 34 #[.int .i64 gn, .slice gA usg.length gc]) := T; clear T; have g0 := HFg.out.cell 0; have g1 := HFg.out.cell 1; simp only [List.getElem?_toArray, List.getElem?_cons_zero, List.getElem?_cons_succ] at g0 g1; have T := Lib.hid ((hk.blk gb HFb.out.lt (fun e => Nat.lt_irrefl _ (Nat.lt_of_lt_of_le e.2 HGb.out))).trans HFb.out); clear HFb b0 b1; have HFb : Hid (Blk w12 gb 34 #[.int .i64 gn, .slice bA usb.length bc]) := T; clear T; have b0 := HFb.out.cell 0; have b1 := HFb.out.cell 1; simp only [List.getElem?_toArray, List.getElem?_cons_zero, List.getElem?_cons_succ] at b0 b1; have HXN := Lib.hid (KeepX.below HX.out hk HX.out.size (fun _ h => h.1)); clear HX HW c0 c1 c2 c3 c4 c5 c6 c7 c8 c9 c10 d0 d1 d2 d3 d4 d5 d6 d7 d8 d9 d10; have HX := HXN; clear HXN; obtain ⟨c0, c1, c2, c3, c4, c5, c6, c7, c8, c9, c10⟩ := rbox_of (HALL.out _ HX.out).1; obtain ⟨d0, d1, d2, d3, d4, d5, d6, d7, d8, d9, d10⟩ := rbox_of (HALL.out _ HX.out).2.1; clear hk Ha HA0 Hp Hq HFa HFp HFq a0 a1 p0 p1 q0 q1)
  go_wp2_with (first
    | (go_at_call 17; refine (HSA.out _ _ _ Hg.out.lists Hb.out.lists).mono ?_; rintro e w13 ⟨rfl, hb⟩; clear Hg Hb HFg HFb g0 g1 b0 b1; have HXN := Lib.hid (bt HX.out (Nat.le_refl _) hb); clear HX c0 c1 c2 c3 c4 c5 c6 c7 c8 c9 c10 d0 d1 d2 d3 d4 d5 d6 d7 d8 d9 d10; have HX := HXN; clear HXN; obtain ⟨c0, c1, c2, c3, c4, c5, c6, c7, c8, c9, c10⟩ := rbox_of (HALL.out _ HX.out).1; obtain ⟨d0, d1, d2, d3, d4, d5, d6, d7, d8, d9, d10⟩ := rbox_of (HALL.out _ HX.out).2.1; clear hb)
    | (go_at_call 19; refine (HKEPT.out _ _ _ _ _ (HALL.out _ HX.out).2.2.2.1 (HALL.out _ HX.out).2.2.1).mono ?_; rintro e w14 ⟨rfl, hb⟩; have HXN := Lib.hid (bt HX.out (Nat.le_refl _) hb); clear HX c0 c1 c2 c3 c4 c5 c6 c7 c8 c9 c10 d0 d1 d2 d3 d4 d5 d6 d7 d8 d9 d10; have HX := HXN; clear HXN; obtain ⟨c0, c1, c2, c3, c4, c5, c6, c7, c8, c9, c10⟩ := rbox_of (HALL.out _ HX.out).1; obtain ⟨d0, d1, d2, d3, d4, d5, d6, d7, d8, d9, d10⟩ := rbox_of (HALL.out _ HX.out).2.1; clear hb)
    | (go_at_call 20; refine (HKI.out _ _ _ _ (HALL.out _ HX.out).2.2.2.2.2.1 (HALL.out _ HX.out).2.2.2.2.1).mono ?_; rintro e w15 ⟨rfl, hb⟩; have HXN := Lib.hid (bt HX.out (Nat.le_refl _) hb); clear HX c0 c1 c2 c3 c4 c5 c6 c7 c8 c9 c10 d0 d1 d2 d3 d4 d5 d6 d7 d8 d9 d10; have HX := HXN; clear HXN; obtain ⟨c0, c1, c2, c3, c4, c5, c6, c7, c8, c9, c10⟩ := rbox_of (HALL.out _ HX.out).1; obtain ⟨d0, d1, d2, d3, d4, d5, d6, d7, d8, d9, d10⟩ := rbox_of (HALL.out _ HX.out).2.1; clear hb)
    | (go_at_call 21; refine (worksE_any _).mono ?_; rintro e w16 ⟨rfl, hb⟩; have HXN := Lib.hid (bt HX.out (Nat.le_refl _) hb); clear HX c0 c1 c2 c3 c4 c5 c6 c7 c8 c9 c10 d0 d1 d2 d3 d4 d5 d6 d7 d8 d9 d10; have HX := HXN; clear HXN; obtain ⟨c0, c1, c2, c3, c4, c5, c6, c7, c8, c9, c10⟩ := rbox_of (HALL.out _ HX.out).1; obtain ⟨d0, d1, d2, d3, d4, d5, d6, d7, d8, d9, d10⟩ := rbox_of (HALL.out _ HX.out).2.1; clear hb))
  go_ret
  exact ⟨rfl, (HALL.out _ HX.out).2.2.2.2.2.2⟩
end Go.Proofs.Ytdodhbfplglbkaa

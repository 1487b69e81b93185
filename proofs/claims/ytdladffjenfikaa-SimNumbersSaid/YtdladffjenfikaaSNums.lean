/- The walk of SimNumbers: for whatever circuit and trace the statement's Go function answers true, and nothing that was there has turned. -/
import Derived.Test.YtdladffjenfikaaSimS
import Derived.Test.YtdladffjenfikaaSimQ
import Derived.Test.YtdladffjenfikaaSimW
import Derived.Test.YtdladffjenfikaaRenW
import Derived.Test.YtdladffjenfikaaArgS
namespace Go.Proofs.Ytdladffjenfikaa
open Go.RowKit

theorem cop_slcs {w : World} {B : Nat} {V : CV} {us : List Value} {C : Circ} (h : Cop w B V us C) : (Slc V.i ∧ Slc V.l ∧ Slc V.o ∧ Slc V.b ∧ Slc V.c) ∧ Slc V.j ∧ Slc V.f ∧ Slc V.a ∧ Slc V.s ∧ Slc V.t :=
  ⟨⟨own_slc (h.fam.own (V.i, C.inputs) (by simp)), own_slc h.l, own_slc (h.fam.own (V.o, C.outputs) (by simp)), own_slc (h.fam.own (V.b, C.bads) (by simp)), own_slc (h.fam.own (V.c, C.constraints) (by simp))⟩, own_slc h.j, own_slc (h.fam.own (V.f, C.fairness) (by simp)), own_slc h.a, own_slc h.s, own_slc h.t⟩
/-- The moments that a run answers with. -/
def rowMs (C : Circ) (O : List Int) (t : Tr) : List Mom := if runE C t = 0 then momsG C O t.init t.rows else []
theorem run_row (w : World) (V : CV) (C : Circ) (U : TV) (t : Tr) (O : List Int) (h : C.In w V) (ok : C.Ok) (rm : C.Room) (ht : t.In w U) (hO : (checkR C).2 = 0 → IsOrd C O) :
    Calls Try.prog 24 #[V.val C.max, U.val t.loop] w fun e w' => Below w.heap.size w w' ∧ ∃ A k c, e = .returned (.tuple #[.slice A k c, .int .i64 (runE C t)]) ∧ MomRow w' (.slice A k c) (rowMs C O t) := by
  refine (Run_any w V C U t O h ok rm ht hO).mono ?_
  rintro e w' ⟨hb, v, rfl, hno, hyes⟩
  by_cases h0 : runE C t = 0
  · obtain ⟨gm, xs, rfl, _, hmb, hms⟩ := hyes h0
    have hn2 := (fits_of (runE_ok h0).2).n2
    refine ⟨hb, _, _, _, rfl, ?_⟩
    unfold rowMs
    rw [if_pos h0]
    exact momRow_of hmb hms (momsG_len C O _ _) (by unfold maxLen; omega)
  · obtain rfl := hno h0
    refine ⟨hb, _, _, _, rfl, ?_⟩
    unfold rowMs
    rw [if_neg h0]
    exact MomRow.nil _ _
theorem ren_rowMs {C : Circ} {O P : List Int} (h0 : (checkR C).2 = 0) (hO : IsOrd C O) (hP : IsOrd (renC C O) P) (t : Tr) : rowMs (renC C O) P t = rowMs C O t := by
  unfold rowMs
  rw [ren_runE h0 hO]
  by_cases h1 : runE C t = 0
  · have hf := fits_of (runE_ok h1).2
    rw [if_pos h1, if_pos h1, ren_moms h0 hO hP t.rows t.init hf.i hf.r]
  · rw [if_neg h1, if_neg h1]
/-- Values, of an input that fits. -/
theorem vals_tab (w : World) (V : CV) (C : Circ) (sv rv : Value) (st row : List Bool) (O : List Int) (h : C.In w V) (ok : C.Ok) (hs : RowE 1 encO w sv st) (hr : RowE 1 encO w rv row) (hO : (checkR C).2 = 0 → IsOrd C O) (hfe : fitE C st row = 0) :
    Calls Try.prog 11 #[V.val C.max, sv, rv] w fun e w' => Below w.heap.size w w' ∧ ∃ g, e = .returned (.tuple #[.slice (some ⟨g, 0, none⟩) (C.max.toNat + 1) (C.max.toNat + 1), .int .i64 0]) ∧ Tab w' g (valF C O st row) := by
  refine (Values_any w V C sv rv st row O h ok hs hr hO).mono ?_
  rintro e w' ⟨hb, v, rfl, _, hyes⟩
  obtain ⟨g, rfl, _, ht⟩ := hyes hfe
  rw [hfe]
  exact ⟨hb, g, rfl, ht⟩
set_option maxHeartbeats 20000000 in
set_option maxRecDepth 100000 in
theorem simNumbers_walk (w : World) (V : CV) (C : Circ) (U : TV) (t : Tr) (h : C.In w V) (ok : C.Ok) (rm : C.Room ∧ C.Reach) (ht : t.In w U) (_hr : t.Reach) :
    Calls Try.prog 8 #[V.val C.max, U.val t.loop] w fun e w' => e = .returned (.bool true) ∧ Below w.heap.size w w' := by
  obtain ⟨O, hO⟩ := ord_ex h ok
  have hall : ∀ wz, Below ((w.alloc (.cells (V.cells C.max) 29)).alloc (.cells (U.cells t.loop) 47)).heap.size ((w.alloc (.cells (V.cells C.max) 29)).alloc (.cells (U.cells t.loop) 47)) wz →
      Blk wz w.heap.size 29 (V.cells C.max) ∧ Blk wz (w.heap.size + 1) 47 (U.cells t.loop) ∧ Below w.heap.size w wz := fun wz hb => by
    have h1 : Below w.heap.size w wz := (((Below.refl w.heap.size w).alloc (Nat.le_refl _) _).alloc (by simp) _).trans (hb.mono (by simp; omega))
    have e1 := ((Blk.new w 29 (V.cells C.max)).alloc (.cells (U.cells t.loop) 47)).below hb (by simp; omega)
    have e2 := (Blk.new (w.alloc (.cells (V.cells C.max) 29)) 47 (U.cells t.loop)).below hb (by simp)
    rw [show (w.alloc (.cells (V.cells C.max) 29)).heap.size = w.heap.size + 1 by simp] at e2
    exact ⟨e1, e2, h1⟩
  have hx0 : Below ((w.alloc (.cells (V.cells C.max) 29)).alloc (.cells (U.cells t.loop) 47)).heap.size ((w.alloc (.cells (V.cells C.max) 29)).alloc (.cells (U.cells t.loop) 47)) ((w.alloc (.cells (V.cells C.max) 29)).alloc (.cells (U.cells t.loop) 47)) := Below.refl _ _
  have hr1 := fun (wx : World) (hb : Below w.heap.size w wx) => run_row wx V C U t O (h.below hb) ok rm.1 (ht.below hb) hO
  have hval := fun (wx : World) (hb : Below w.heap.size w wx) (sv rv : Value) (st row : List Bool) (hs : RowE 1 encO wx sv st) (hr : RowE 1 encO wx rv row) => vals_tab wx V C sv rv st row O (h.below hb) ok hs hr hO
  have hxrun := fun (wx : World) (hb : Below w.heap.size w wx) (V' : CV) (X : Circ) (P : List Int) (hx : X.In wx V') (okx : X.Ok) (rmx : X.Room) (hP : IsOrd X P) => run_row wx V' X U t P hx okx rmx (ht.below hb) (fun _ => hP)
  have hno := fun (hz : (checkR C).2 ≠ 0) (wx : World) (hb : Below w.heap.size w wx) => Renumber_no wx V C (h.below hb) ok hz
  have hren := fun (hz : (checkR C).2 = 0) (wx : World) (hb : Below w.heap.size w wx) => Renumber_ok wx V C (h.below hb) ok rm.1 hz
  have HTI := Lib.hid ht
  have HOK := Lib.hid (And.intro ok rm.1)
  obtain ⟨AR, cR, eR, hrm, hrr⟩ := ht.r.at_
  obtain ⟨AI, nI, cI, eI⟩ := slO_form ht.i
  obtain ⟨Vi, Vl, Vo, Vb, Vc, Vj, Vf, Va, Vs, Vt⟩ := V
  obtain ⟨Ui, Ur⟩ := U
  simp only at eR eI
  subst eR eI
  obtain ⟨m, hmm⟩ : ∃ m, C.max = m := ⟨_, rfl⟩
  obtain ⟨n, hn⟩ : ∃ n, t.rows.length = n := ⟨_, rfl⟩
  obtain ⟨lp, hlp⟩ : ∃ lp, t.loop = lp := ⟨_, rfl⟩
  rw [hmm, hn, hlp] at hall hx0 hr1
  rw [hmm] at hval hno hren
  rw [hn, hlp] at hxrun
  rw [hn] at HTI
  rw [hmm, hn, hlp]
  have HALL := Lib.hid hall
  have HX := Lib.hid hx0
  have HRR := Lib.hid hrr
  have HR1 := Lib.hid hr1
  have HVAL := Lib.hid hval
  have HXRUN := Lib.hid hxrun
  have HN := Lib.hid hn
  have HMM := Lib.hid hmm
  have HO := Lib.hid hO
  have HNO := Lib.hid hno
  have HREN := Lib.hid hren
  unfold maxLen at hrm
  clear h ht ok rm hall hx0 hr1 hval hxrun hno hren hrr hmm hn hlp hO
  obtain ⟨c0, c1, c2, c3, c4, c5, c6, c7, c8, c9, c10⟩ := rbox_of (HALL.out _ HX.out).1
  obtain ⟨y0, y1, y2⟩ := trio_of (HALL.out _ HX.out).2.1
  by_cases h0 : (checkR C).2 = 0
  · have HX0 := Lib.hid h0
    have HOO := Lib.hid (HO.out h0)
    have HR := Lib.hid (HREN.out h0)
    have HXX := Lib.hid (renX_of h0 (HO.out h0))
    clear HNO HREN HO h0
    go_enter Try.func8, Try.ntmps8
    go_upto_region 3 with (go_at_call 20; refine (worksS_any _).mono ?_; rintro e w1 ⟨rfl, hb⟩; have HXN := Lib.hid (bt HX.out (Nat.le_refl _) hb); clear HX hb c0 c1 c2 c3 c4 c5 c6 c7 c8 c9 c10 y0 y1 y2; have HX := HXN; clear HXN; obtain ⟨c0, c1, c2, c3, c4, c5, c6, c7, c8, c9, c10⟩ := rbox_of (HALL.out _ HX.out).1; obtain ⟨y0, y1, y2⟩ := trio_of (HALL.out _ HX.out).2.1)
    go_upto_region 4 with (go_at_call 31; go_loud (refine (HR.out _ (HALL.out _ HX.out).2.2).mono ?_; rintro e w2 ⟨hb, V', us, vm, out, rfl, hG, hl, hcop, hvm⟩; obtain rfl : out = O := HOO.out.same hG hl; have HCOP := Lib.hid hcop; have HVM := Lib.hid hvm; have hsl := cop_slcs hcop; obtain ⟨Wi, Wl, Wo, Wb, Wc, Wj, Wf, Wa, Ws, Wt⟩ := V'; obtain ⟨⟨⟨i1, i2, i3, q1⟩, ⟨l1, l2, l3, q2⟩, ⟨o1, o2, o3, q3⟩, ⟨b1, b2, b3, q4⟩, ⟨d1, d2, d3, q5⟩⟩, ⟨j1, j2, j3, q6⟩, ⟨f1, f2, f3, q7⟩, ⟨a1, a2, a3, q10⟩, ⟨s1, s2, s3, q8⟩, ⟨t1, t2, t3, q9⟩⟩ := hsl; simp only at q1 q2 q3 q4 q5 q6 q7 q8 q9 q10; subst q1 q2 q3 q4 q5 q6 q7 q8 q9 q10; have HXN := Lib.hid (bt HX.out (Nat.le_refl _) hb); clear HX c0 c1 c2 c3 c4 c5 c6 c7 c8 c9 c10 y0 y1 y2; have HX := HXN; clear HXN hb hG hl hcop hvm))
    have hcop := HCOP.out
    have hvm := HVM.out
    have hxi := hcop.in_
    have okx : (renC C out).Ok := (right_of HXX.out.c).ok HOK.out.1.s HOK.out.1.sn
    have rmx : (renC C out).Room := ren_room HOK.out.2 HOO.out.l
    obtain ⟨P, hP⟩ := ord_ex hxi okx
    have hP := hP HXX.out.c
    have hml := newM_len C out
    obtain ⟨gm, capm, e2, _, _, _, hmlt, hmc, _, _⟩ := own_cells hvm (by rw [hml]; omega)
    subst e2
    have hmx := fun (v : Nat) (x : Int) (hx : (newM C out)[v]? = some x) => map_rng HXX.out.f HXX.out.n hx
    have hm0 : 0 ≤ m ∧ m ≤ 16384 := by rw [← HMM.out]; exact ⟨HXX.out.f.m0, HXX.out.f.m1⟩
    have hX0 : 0 ≤ (renC C out).max ∧ (renC C out).max ≤ 16384 := ⟨(right_of HXX.out.c).m0, (right_of HXX.out.c).m1⟩
    have hms := ren_rowMs HX0.out HOO.out hP t
    have hre := ren_runE HX0.out HOO.out t
    have hvv := fun (st row : List Bool) (h1 : st.length = C.latches.length) (h2 : row.length = C.inputs.length) => ren_vals HX0.out HOO.out hP h1 h2
    obtain ⟨mx, hmxx⟩ : ∃ mx, (renC C out).max = mx := ⟨_, rfl⟩
    have hal2 : ∀ wz, Below (w2.alloc (.cells #[.int .i64 mx, .slice i1 i2 i3, .slice l1 l2 l3, .slice o1 o2 o3, .slice b1 b2 b3, .slice d1 d2 d3, .slice j1 j2 j3, .slice f1 f2 f3, .slice a1 a2 a3, .slice s1 s2 s3, .slice t1 t2 t3] 29)).heap.size (w2.alloc (.cells #[.int .i64 mx, .slice i1 i2 i3, .slice l1 l2 l3, .slice o1 o2 o3, .slice b1 b2 b3, .slice d1 d2 d3, .slice j1 j2 j3, .slice f1 f2 f3, .slice a1 a2 a3, .slice s1 s2 s3, .slice t1 t2 t3] 29)) wz → Blk wz w.heap.size 29 #[.int .i64 m, Vi, Vl, Vo, Vb, Vc, Vj, Vf, Va, Vs, Vt] ∧ Blk wz (w.heap.size + 1) 47 #[.slice AI nI cI, .slice AR n cR, .int .i64 lp] ∧ Below w.heap.size w wz ∧ Blk wz w2.heap.size 29 #[.int .i64 mx, .slice i1 i2 i3, .slice l1 l2 l3, .slice o1 o2 o3, .slice b1 b2 b3, .slice d1 d2 d3, .slice j1 j2 j3, .slice f1 f2 f3, .slice a1 a2 a3, .slice s1 s2 s3, .slice t1 t2 t3] ∧ (renC C out).In wz ⟨.slice i1 i2 i3, .slice l1 l2 l3, .slice o1 o2 o3, .slice b1 b2 b3, .slice d1 d2 d3, .slice j1 j2 j3, .slice f1 f2 f3, .slice a1 a2 a3, .slice s1 s2 s3, .slice t1 t2 t3⟩ ∧ ∀ (i : Nat) (x : Int), (newM C out)[i]? = some x → wz.cell? ⟨gm, i, none⟩ = some (.int .i64 x) := fun wz hb => by
      have h1 : Below w2.heap.size w2 wz := ((Below.refl w2.heap.size w2).alloc (Nat.le_refl _) _).trans (hb.mono (by simp))
      obtain ⟨e1, e2, e3⟩ := HALL.out wz (bt HX.out (Nat.le_refl _) h1)
      refine ⟨e1, e2, e3, (Blk.new w2 29 #[.int .i64 mx, .slice i1 i2 i3, .slice l1 l2 l3, .slice o1 o2 o3, .slice b1 b2 b3, .slice d1 d2 d3, .slice j1 j2 j3, .slice f1 f2 f3, .slice a1 a2 a3, .slice s1 s2 s3, .slice t1 t2 t3]).below hb (by simp), hxi.below h1, fun i x hx => ?_⟩
      have hi := (List.getElem?_eq_some_iff.1 hx).1
      have := hmc i hi
      rw [show (newM C out).getD i 0 = x by simp [List.getD, hx]] at this
      exact (h1.cell (p := ⟨gm, i, none⟩) hmlt).trans this
    have hxr := fun (wx : World) (hb : Below (w2.alloc (.cells #[.int .i64 mx, .slice i1 i2 i3, .slice l1 l2 l3, .slice o1 o2 o3, .slice b1 b2 b3, .slice d1 d2 d3, .slice j1 j2 j3, .slice f1 f2 f3, .slice a1 a2 a3, .slice s1 s2 s3, .slice t1 t2 t3] 29)).heap.size (w2.alloc (.cells #[.int .i64 mx, .slice i1 i2 i3, .slice l1 l2 l3, .slice o1 o2 o3, .slice b1 b2 b3, .slice d1 d2 d3, .slice j1 j2 j3, .slice f1 f2 f3, .slice a1 a2 a3, .slice s1 s2 s3, .slice t1 t2 t3] 29)) wx) => HXRUN.out wx (hal2 wx hb).2.2.1 ⟨.slice i1 i2 i3, .slice l1 l2 l3, .slice o1 o2 o3, .slice b1 b2 b3, .slice d1 d2 d3, .slice j1 j2 j3, .slice f1 f2 f3, .slice a1 a2 a3, .slice s1 s2 s3, .slice t1 t2 t3⟩ (renC C out) P (hal2 wx hb).2.2.2.2.1 okx rmx hP
    have hxv := fun (wx : World) (hb : Below (w2.alloc (.cells #[.int .i64 mx, .slice i1 i2 i3, .slice l1 l2 l3, .slice o1 o2 o3, .slice b1 b2 b3, .slice d1 d2 d3, .slice j1 j2 j3, .slice f1 f2 f3, .slice a1 a2 a3, .slice s1 s2 s3, .slice t1 t2 t3] 29)).heap.size (w2.alloc (.cells #[.int .i64 mx, .slice i1 i2 i3, .slice l1 l2 l3, .slice o1 o2 o3, .slice b1 b2 b3, .slice d1 d2 d3, .slice j1 j2 j3, .slice f1 f2 f3, .slice a1 a2 a3, .slice s1 s2 s3, .slice t1 t2 t3] 29)) wx) (sv rv : Value) (st row : List Bool) (hs : RowE 1 encO wx sv st) (hr : RowE 1 encO wx rv row) => vals_tab wx ⟨.slice i1 i2 i3, .slice l1 l2 l3, .slice o1 o2 o3, .slice b1 b2 b3, .slice d1 d2 d3, .slice j1 j2 j3, .slice f1 f2 f3, .slice a1 a2 a3, .slice s1 s2 s3, .slice t1 t2 t3⟩ (renC C out) sv rv st row P (hal2 wx hb).2.2.2.2.1 okx hs hr (fun _ => hP)
    have hmx3 : Hid ((renC C out).max = mx) := Lib.hid hmxx
    rw [hmxx, hre, hms] at hxr
    rw [hmxx] at hxv hX0 hmx
    rw [hml, HMM.out]
    rw [hml, HMM.out] at hmc
    rw [hmxx]
    have HAL2 := Lib.hid hal2
    have HXR := Lib.hid hxr
    have HXV := Lib.hid hxv
    have HMX := Lib.hid hmx
    have HVV := Lib.hid hvv
    have HP := Lib.hid hP
    have HML := Lib.hid hml
    obtain ⟨r, hrE⟩ : ∃ r, runE C t = r := ⟨_, rfl⟩
    have HRE := Lib.hid hrE
    rw [hrE] at HR1 HXR
    clear HX HCOP HVM hcop hvm hxi okx rmx hP hml hmlt hmc hmx hms hre hvv hmxx hal2 hxr hxv hrE
    have HX : Hid (Below (w2.alloc (.cells #[.int .i64 mx, .slice i1 i2 i3, .slice l1 l2 l3, .slice o1 o2 o3, .slice b1 b2 b3, .slice d1 d2 d3, .slice j1 j2 j3, .slice f1 f2 f3, .slice a1 a2 a3, .slice s1 s2 s3, .slice t1 t2 t3] 29)).heap.size (w2.alloc (.cells #[.int .i64 mx, .slice i1 i2 i3, .slice l1 l2 l3, .slice o1 o2 o3, .slice b1 b2 b3, .slice d1 d2 d3, .slice j1 j2 j3, .slice f1 f2 f3, .slice a1 a2 a3, .slice s1 s2 s3, .slice t1 t2 t3] 29)) (w2.alloc (.cells #[.int .i64 mx, .slice i1 i2 i3, .slice l1 l2 l3, .slice o1 o2 o3, .slice b1 b2 b3, .slice d1 d2 d3, .slice j1 j2 j3, .slice f1 f2 f3, .slice a1 a2 a3, .slice s1 s2 s3, .slice t1 t2 t3] 29))) := Lib.hid (Below.refl _ _)
    obtain ⟨c0, c1, c2, c3, c4, c5, c6, c7, c8, c9, c10⟩ := rbox_of (HAL2.out _ HX.out).1
    obtain ⟨y0, y1, y2⟩ := trio_of (HAL2.out _ HX.out).2.1
    obtain ⟨k0, k1, k2, k3, k4, k5, k6, k7, k8, k9, k10⟩ := rbox_of (HAL2.out _ HX.out).2.2.2.1
    go_upto_region 8 with (go_at_call 24; go_loud (refine (HR1.out _ (HAL2.out _ HX.out).2.2.1).mono ?_; rintro e w3 ⟨hb, A1, q1, q2, rfl, hm1⟩; have HM1 := Lib.hid hm1; have HXN := Lib.hid (bt HX.out (Nat.le_refl _) hb); clear HX hb c0 c1 c2 c3 c4 c5 c6 c7 c8 c9 c10 y0 y1 y2 k0 k1 k2 k3 k4 k5 k6 k7 k8 k9 k10; have HX := HXN; clear HXN; obtain ⟨c0, c1, c2, c3, c4, c5, c6, c7, c8, c9, c10⟩ := rbox_of (HAL2.out _ HX.out).1; obtain ⟨y0, y1, y2⟩ := trio_of (HAL2.out _ HX.out).2.1; obtain ⟨k0, k1, k2, k3, k4, k5, k6, k7, k8, k9, k10⟩ := rbox_of (HAL2.out _ HX.out).2.2.2.1; clear hm1))
    go_upto_region 9 with (go_at_call 24; go_loud (refine (HXR.out _ HX.out).mono ?_; rintro e w4 ⟨hb, A2, q3, q4, rfl, hm2⟩; have HM2 := Lib.hid (And.intro (HM1.out.below hb) hm2); have HXN := Lib.hid (bt HX.out (Nat.le_refl _) hb); clear HX hb c0 c1 c2 c3 c4 c5 c6 c7 c8 c9 c10 y0 y1 y2 k0 k1 k2 k3 k4 k5 k6 k7 k8 k9 k10; have HX := HXN; clear HXN; obtain ⟨c0, c1, c2, c3, c4, c5, c6, c7, c8, c9, c10⟩ := rbox_of (HAL2.out _ HX.out).1; obtain ⟨y0, y1, y2⟩ := trio_of (HAL2.out _ HX.out).2.1; obtain ⟨k0, k1, k2, k3, k4, k5, k6, k7, k8, k9, k10⟩ := rbox_of (HAL2.out _ HX.out).2.2.2.1; clear hm2))
    have hrr : (r != r) = false := by simp
    go_upto_region 11 with (go_at_call 26; go_loud (refine (same_any _ _ _ _ HM2.out.1 HM2.out.2).mono ?_; rintro e w5 ⟨rfl, hb⟩; have HXN := Lib.hid (bt HX.out (Nat.le_refl _) hb); clear HX hb c0 c1 c2 c3 c4 c5 c6 c7 c8 c9 c10 y0 y1 y2 k0 k1 k2 k3 k4 k5 k6 k7 k8 k9 k10; have HX := HXN; clear HXN; obtain ⟨c0, c1, c2, c3, c4, c5, c6, c7, c8, c9, c10⟩ := rbox_of (HAL2.out _ HX.out).1; obtain ⟨y0, y1, y2⟩ := trio_of (HAL2.out _ HX.out).2.1; obtain ⟨k0, k1, k2, k3, k4, k5, k6, k7, k8, k9, k10⟩ := rbox_of (HAL2.out _ HX.out).2.2.2.1))
    clear HM1 HM2
    by_cases hr0 : r = 0
    · subst hr0
      obtain ⟨hck, hfb⟩ := runE_ok HRE.out
      have HF := Lib.hid (fits_of hfb)
      have hn1 := HF.out.n1
      have hn2 := HF.out.n2
      rw [HN.out] at hn1 hn2
      clear hck hfb
      obtain ⟨row, hz0⟩ : ∃ row, t.rows[0]? = some row := ⟨_, List.getElem?_eq_getElem (by rw [HN.out]; omega)⟩
      obtain ⟨rb, ro, u, e0, hrb, hu, hru⟩ := HRR.out 0 row hz0
      subst e0
      obtain ⟨uA, un, uc, hue⟩ := slO_form hru
      subst hue
      rw [Nat.add_zero] at hu
      have hrl := HF.out.r row (List.mem_of_getElem? hz0)
      have hfe : fitE C t.init row = 0 := fitE_yes HX0.out HF.out.i hrl
      have hfx : fitE (renC C out) t.init row = 0 := fitE_yes HXX.out.c (by rw [HF.out.i]; simp [renC]) (by rw [hrl]; simp [renC])
      have HV1 : Hid (∀ wx, Below (w2.alloc (.cells #[.int .i64 mx, .slice i1 i2 i3, .slice l1 l2 l3, .slice o1 o2 o3, .slice b1 b2 b3, .slice d1 d2 d3, .slice j1 j2 j3, .slice f1 f2 f3, .slice a1 a2 a3, .slice s1 s2 s3, .slice t1 t2 t3] 29)).heap.size (w2.alloc (.cells #[.int .i64 mx, .slice i1 i2 i3, .slice l1 l2 l3, .slice o1 o2 o3, .slice b1 b2 b3, .slice d1 d2 d3, .slice j1 j2 j3, .slice f1 f2 f3, .slice a1 a2 a3, .slice s1 s2 s3, .slice t1 t2 t3] 29)) wx → _) := Lib.hid (fun wx hb => HVAL.out wx (HAL2.out wx hb).2.2.1 _ _ t.init row (HTI.out.i.below (HAL2.out wx hb).2.2.1) (hru.below (HAL2.out wx hb).2.2.1) hfe)
      have HV2 : Hid (∀ wx, Below (w2.alloc (.cells #[.int .i64 mx, .slice i1 i2 i3, .slice l1 l2 l3, .slice o1 o2 o3, .slice b1 b2 b3, .slice d1 d2 d3, .slice j1 j2 j3, .slice f1 f2 f3, .slice a1 a2 a3, .slice s1 s2 s3, .slice t1 t2 t3] 29)).heap.size (w2.alloc (.cells #[.int .i64 mx, .slice i1 i2 i3, .slice l1 l2 l3, .slice o1 o2 o3, .slice b1 b2 b3, .slice d1 d2 d3, .slice j1 j2 j3, .slice f1 f2 f3, .slice a1 a2 a3, .slice s1 s2 s3, .slice t1 t2 t3] 29)) wx → _) := Lib.hid (fun wx hb => HXV.out wx hb _ _ t.init row (HTI.out.i.below (HAL2.out wx hb).2.2.1) (hru.below (HAL2.out wx hb).2.2.1) hfx)
      have hvv := HVV.out t.init row HF.out.i hrl
      have htl := valF_len C out t.init row
      have htl2 := valF_len (renC C out) P t.init row
      rw [HMM.out] at htl
      obtain ⟨TT, hTT⟩ : ∃ TT, valF C out t.init row = TT := ⟨_, rfl⟩
      obtain ⟨TX, hTX⟩ : ∃ TX, valF (renC C out) P t.init row = TX := ⟨_, rfl⟩
      rw [hTT] at HV1 hvv htl
      rw [hTX] at HV2 hvv htl2
      have HTM := Lib.hid hvv.m
      have hcu : Hid (∀ wz, Below (w2.alloc (.cells #[.int .i64 mx, .slice i1 i2 i3, .slice l1 l2 l3, .slice o1 o2 o3, .slice b1 b2 b3, .slice d1 d2 d3, .slice j1 j2 j3, .slice f1 f2 f3, .slice a1 a2 a3, .slice s1 s2 s3, .slice t1 t2 t3] 29)).heap.size (w2.alloc (.cells #[.int .i64 mx, .slice i1 i2 i3, .slice l1 l2 l3, .slice o1 o2 o3, .slice b1 b2 b3, .slice d1 d2 d3, .slice j1 j2 j3, .slice f1 f2 f3, .slice a1 a2 a3, .slice s1 s2 s3, .slice t1 t2 t3] 29)) wz → wz.cell? ⟨rb, ro, none⟩ = some (.slice uA un uc)) := Lib.hid (fun wz hb => ((HAL2.out wz hb).2.2.1.cell (p := ⟨rb, ro, none⟩) hrb).trans hu)
      have HSV : Hid (∀ wz, Below w5.heap.size w5 wz → wz.cell? ⟨w.heap.size, 0, none⟩ = some (.int .i64 m) ∧ wz.cell? ⟨w.heap.size, 1, none⟩ = some (Vi) ∧ wz.cell? ⟨w.heap.size, 2, none⟩ = some (Vl) ∧ wz.cell? ⟨w.heap.size, 3, none⟩ = some (Vo) ∧ wz.cell? ⟨w.heap.size, 4, none⟩ = some (Vb) ∧ wz.cell? ⟨w.heap.size, 5, none⟩ = some (Vc) ∧ wz.cell? ⟨w.heap.size, 6, none⟩ = some (Vj) ∧ wz.cell? ⟨w.heap.size, 7, none⟩ = some (Vf) ∧ wz.cell? ⟨w.heap.size, 8, none⟩ = some (Va) ∧ wz.cell? ⟨w.heap.size, 9, none⟩ = some (Vs) ∧ wz.cell? ⟨w.heap.size, 10, none⟩ = some (Vt) ∧ wz.cell? ⟨w.heap.size + 1, 0, none⟩ = some (.slice AI nI cI) ∧ wz.cell? ⟨w.heap.size + 1, 1, none⟩ = some (.slice (some ⟨rb, ro, none⟩) n cR) ∧ wz.cell? ⟨rb, ro, none⟩ = some (.slice uA un uc)) := Lib.hid (fun wz hb => by
        have h1 := bt HX.out (Nat.le_refl _) hb
        obtain ⟨e0, e1, e2, e3, e4, e5, e6, e7, e8, e9, e10⟩ := rbox_of (HAL2.out _ h1).1
        obtain ⟨f0, f1, _⟩ := trio_of (HAL2.out _ h1).2.1
        exact ⟨e0, e1, e2, e3, e4, e5, e6, e7, e8, e9, e10, f0, f1, hcu.out _ h1⟩)
      have h1n : (0 : Int) < (n : Int) := by omega
      have h1m : 0 < n := by omega
      clear hz0 hrb hu hru hrl hfe hfx hvv hTT hTX
      go_upto_region 13 with (fail)
      go_region_held3 (fun w' => w'.cell? ⟨w.heap.size, 0, none⟩ = some (.int .i64 m) ∧ w'.cell? ⟨w.heap.size, 1, none⟩ = some (Vi) ∧ w'.cell? ⟨w.heap.size, 2, none⟩ = some (Vl) ∧ w'.cell? ⟨w.heap.size, 3, none⟩ = some (Vo) ∧ w'.cell? ⟨w.heap.size, 4, none⟩ = some (Vb) ∧ w'.cell? ⟨w.heap.size, 5, none⟩ = some (Vc) ∧ w'.cell? ⟨w.heap.size, 6, none⟩ = some (Vj) ∧ w'.cell? ⟨w.heap.size, 7, none⟩ = some (Vf) ∧ w'.cell? ⟨w.heap.size, 8, none⟩ = some (Va) ∧ w'.cell? ⟨w.heap.size, 9, none⟩ = some (Vs) ∧ w'.cell? ⟨w.heap.size, 10, none⟩ = some (Vt) ∧ w'.cell? ⟨w.heap.size + 1, 0, none⟩ = some (.slice AI nI cI) ∧ w'.cell? ⟨w.heap.size + 1, 1, none⟩ = some (.slice (some ⟨rb, ro, none⟩) n cR) ∧ w'.cell? ⟨rb, ro, none⟩ = some (.slice uA un uc)) (first | exact HSV.out _ (Below.refl _ _).drew | exact HSV.out _ HY.out | go_keep)
        (first | (go_at_call 11; refine (HV1.out _ (bt HX.out (Nat.le_refl _) (Below.refl _ _).drew)).mono ?_; rintro e w6 ⟨hb, g1, rfl, ht1⟩; have HT1 := Lib.hid ht1; have HY := Lib.hid (bt (Below.refl w5.heap.size w5).drew (Nat.le_refl _) hb); clear ht1 hb))
      go_upto_region 14 with (fail)
      have hX3 := bt HX.out (Nat.le_refl _) HY.out
      clear HX HY HSV c0 c1 c2 c3 c4 c5 c6 c7 c8 c9 c10 y0 y1 y2 k0 k1 k2 k3 k4 k5 k6 k7 k8 k9 k10
      have HX := Lib.hid hX3
      clear hX3
      obtain ⟨c0, c1, c2, c3, c4, c5, c6, c7, c8, c9, c10⟩ := rbox_of (HAL2.out _ HX.out).1
      obtain ⟨y0, y1, y2⟩ := trio_of (HAL2.out _ HX.out).2.1
      obtain ⟨k0, k1, k2, k3, k4, k5, k6, k7, k8, k9, k10⟩ := rbox_of (HAL2.out _ HX.out).2.2.2.1
      have HSV : Hid (∀ wz, Below w6.heap.size w6 wz → wz.cell? ⟨w2.heap.size, 0, none⟩ = some (.int .i64 mx) ∧ wz.cell? ⟨w2.heap.size, 1, none⟩ = some (.slice i1 i2 i3) ∧ wz.cell? ⟨w2.heap.size, 2, none⟩ = some (.slice l1 l2 l3) ∧ wz.cell? ⟨w2.heap.size, 3, none⟩ = some (.slice o1 o2 o3) ∧ wz.cell? ⟨w2.heap.size, 4, none⟩ = some (.slice b1 b2 b3) ∧ wz.cell? ⟨w2.heap.size, 5, none⟩ = some (.slice d1 d2 d3) ∧ wz.cell? ⟨w2.heap.size, 6, none⟩ = some (.slice j1 j2 j3) ∧ wz.cell? ⟨w2.heap.size, 7, none⟩ = some (.slice f1 f2 f3) ∧ wz.cell? ⟨w2.heap.size, 8, none⟩ = some (.slice a1 a2 a3) ∧ wz.cell? ⟨w2.heap.size, 9, none⟩ = some (.slice s1 s2 s3) ∧ wz.cell? ⟨w2.heap.size, 10, none⟩ = some (.slice t1 t2 t3) ∧ wz.cell? ⟨w.heap.size + 1, 0, none⟩ = some (.slice AI nI cI) ∧ wz.cell? ⟨w.heap.size + 1, 1, none⟩ = some (.slice (some ⟨rb, ro, none⟩) n cR) ∧ wz.cell? ⟨rb, ro, none⟩ = some (.slice uA un uc)) := Lib.hid (fun wz hb => by
        have h1 := bt HX.out (Nat.le_refl _) hb
        obtain ⟨e0, e1, e2, e3, e4, e5, e6, e7, e8, e9, e10⟩ := rbox_of (HAL2.out _ h1).2.2.2.1
        obtain ⟨f0, f1, _⟩ := trio_of (HAL2.out _ h1).2.1
        exact ⟨e0, e1, e2, e3, e4, e5, e6, e7, e8, e9, e10, f0, f1, hcu.out _ h1⟩)
      go_region_held3 (fun w' => w'.cell? ⟨w2.heap.size, 0, none⟩ = some (.int .i64 mx) ∧ w'.cell? ⟨w2.heap.size, 1, none⟩ = some (.slice i1 i2 i3) ∧ w'.cell? ⟨w2.heap.size, 2, none⟩ = some (.slice l1 l2 l3) ∧ w'.cell? ⟨w2.heap.size, 3, none⟩ = some (.slice o1 o2 o3) ∧ w'.cell? ⟨w2.heap.size, 4, none⟩ = some (.slice b1 b2 b3) ∧ w'.cell? ⟨w2.heap.size, 5, none⟩ = some (.slice d1 d2 d3) ∧ w'.cell? ⟨w2.heap.size, 6, none⟩ = some (.slice j1 j2 j3) ∧ w'.cell? ⟨w2.heap.size, 7, none⟩ = some (.slice f1 f2 f3) ∧ w'.cell? ⟨w2.heap.size, 8, none⟩ = some (.slice a1 a2 a3) ∧ w'.cell? ⟨w2.heap.size, 9, none⟩ = some (.slice s1 s2 s3) ∧ w'.cell? ⟨w2.heap.size, 10, none⟩ = some (.slice t1 t2 t3) ∧ w'.cell? ⟨w.heap.size + 1, 0, none⟩ = some (.slice AI nI cI) ∧ w'.cell? ⟨w.heap.size + 1, 1, none⟩ = some (.slice (some ⟨rb, ro, none⟩) n cR) ∧ w'.cell? ⟨rb, ro, none⟩ = some (.slice uA un uc)) (first | exact HSV.out _ (Below.refl _ _).drew | exact HSV.out _ HY.out | go_keep)
        (first | (go_at_call 11; refine (HV2.out _ (bt HX.out (Nat.le_refl _) (Below.refl _ _).drew)).mono ?_; rintro e w7 ⟨hb, g2, rfl, ht2⟩; have HT2 := Lib.hid ht2; have HY := Lib.hid (bt (Below.refl w6.heap.size w6).drew (Nat.le_refl _) hb); clear ht2 hb))
      go_upto_region 15 with (fail)
      have hX3 := bt HX.out (Nat.le_refl _) HY.out
      have HT1B := Lib.hid (Blk.below HT1.out HY.out (Blk.lt HT1.out))
      clear HX HY HSV HT1 c0 c1 c2 c3 c4 c5 c6 c7 c8 c9 c10 y0 y1 y2 k0 k1 k2 k3 k4 k5 k6 k7 k8 k9 k10
      have HX := Lib.hid hX3
      clear hX3
      have HLP : Hid (∀ wz, Below w7.heap.size w7 wz → Tab wz g1 TT ∧ Tab wz g2 TX ∧ Below (w2.alloc (.cells #[.int .i64 mx, .slice i1 i2 i3, .slice l1 l2 l3, .slice o1 o2 o3, .slice b1 b2 b3, .slice d1 d2 d3, .slice j1 j2 j3, .slice f1 f2 f3, .slice a1 a2 a3, .slice s1 s2 s3, .slice t1 t2 t3] 29)).heap.size (w2.alloc (.cells #[.int .i64 mx, .slice i1 i2 i3, .slice l1 l2 l3, .slice o1 o2 o3, .slice b1 b2 b3, .slice d1 d2 d3, .slice j1 j2 j3, .slice f1 f2 f3, .slice a1 a2 a3, .slice s1 s2 s3, .slice t1 t2 t3] 29)) wz) := Lib.hid (fun wz hb => ⟨Blk.below HT1B.out hb (Blk.lt HT1B.out), Blk.below HT2.out hb (Blk.lt HT2.out), bt HX.out (Nat.le_refl _) hb⟩)
      obtain ⟨nm, hnm⟩ : ∃ nm, m.toNat + 1 = nm := ⟨_, rfl⟩
      obtain ⟨nx, hnx⟩ : ∃ nx, mx.toNat + 1 = nx := ⟨_, rfl⟩
      have hnb : nm ≤ 20000 ∧ nx ≤ 20000 := by omega
      rw [hnm, hnx]
      rw [hnm] at htl
      have HTL := Lib.hid htl
      have hnx2 : TX.length = nx := by rw [htl2, hmx3.out, hnx]
      have HTX := Lib.hid hnx2
      have HNX := Lib.hid hnx
      have hmlen : (newM C out).length = nm := by rw [HML.out, HMM.out, hnm]
      have HMN := Lib.hid hmlen
      clear htl htl2 hnx2 hnm hnx hmlen
      go_wp2
      go_loopg [90] nm (fun j iv wr => ∃ q : Nat, q ≤ nm ∧ iv = .int .i64 q ∧ j = nm - q ∧ Below w7.heap.size w7 wr)
      case atStart => exact ⟨0, Nat.zero_le _, rfl, rfl, Below.refl _ _⟩
      case round =>
        obtain ⟨q, hq, rfl, hgk, hbw⟩ := hrel
        subst hgk
        have HB7 := Lib.hid hbw
        obtain ⟨ht1, ht2, hxw⟩ := HLP.out _ hbw
        have HXR2 := Lib.hid hxw
        by_cases hlt : q < nm
        · obtain ⟨x, hx⟩ : ∃ x, (newM C out)[q]? = some x := ⟨_, List.getElem?_eq_getElem (by rw [HMN.out]; exact hlt)⟩
          have hcx := (HAL2.out _ hxw).2.2.2.2.2 q x hx
          obtain ⟨x0, x1, x2, _⟩ := HMX.out q x hx
          have htm := HTM.out q x hx
          have hdv := tdiv_nn (b := 2) x0
          have hd0 : 0 ≤ x / 2 := by omega
          have hd1 : x / 2 < (nx : Int) := by have := HNX.out; omega
          have h5 : TT[q]? = some (TT.getD q false) := getD_bool (by rw [HTL.out]; exact hlt)
          have h6 : TX[(x / 2).toNat]? = some (TX.getD (x / 2).toNat false) := getD_bool (by rw [HTX.out]; omega)
          have hc5 := ht1.cell h5
          have hc6 := ht2.cell h6
          rw [htm] at hc6
          obtain ⟨bb, hbb⟩ : ∃ bb, TT.getD q false = bb := ⟨_, rfl⟩
          rw [hbb] at hc5 hc6
          have hbn : (bb != bb) = false := by simp
          have hq0 : (0 : Int) ≤ (q : Int) := by omega
          have hq1 : (q : Int) < (nm : Int) := by omega
          clear hx htm h5 h6 ht1 ht2 hbw hxw hbb
          go_wp2
          go_quiet (fail)
          go_wp2
          go_roundg (nm - (q + 1))
          case measure => omega
          case rel => first | exact ⟨q + 1, by omega, by go_num, rfl, HB7.out⟩ | exact ⟨q + 1, by omega, by go_num, rfl, below_drewN HB7.out _⟩ | ((repeat apply Exists.intro); exact ⟨⟨q + 1, by omega, by go_num, rfl, below_drewN HB7.out _⟩, rfl⟩)
        · have hqe : q = nm := by omega
          subst hqe
          clear ht1 ht2 hbw hxw
          go_wp2
          go_ret
          exact ⟨rfl, (HAL2.out _ HXR2.out).2.2.1⟩
    · have hq : (r != 0) = true := by simpa using hr0
      go_wp2
      go_ret
      exact ⟨rfl, (HAL2.out _ HX.out).2.2.1⟩
  · obtain ⟨r, hr⟩ : ∃ r, (checkR C).2 = r := ⟨_, rfl⟩
    have HNN := Lib.hid (HNO.out h0)
    have hre : runE C t = r := (runE_bad h0).trans hr
    rw [hr] at HNN h0
    rw [hre] at HR1
    have hq : (r != 0) = true := by simpa using h0
    have hq2 : (r == r) = true := by simp
    clear h0 hr hre HNO HREN
    go_enter Try.func8, Try.ntmps8
    go_upto_region 3 with (go_at_call 20; refine (worksS_any _).mono ?_; rintro e w1 ⟨rfl, hb⟩; have HXN := Lib.hid (bt HX.out (Nat.le_refl _) hb); clear HX hb c0 c1 c2 c3 c4 c5 c6 c7 c8 c9 c10 y0 y1 y2; have HX := HXN; clear HXN; obtain ⟨c0, c1, c2, c3, c4, c5, c6, c7, c8, c9, c10⟩ := rbox_of (HALL.out _ HX.out).1; obtain ⟨y0, y1, y2⟩ := trio_of (HALL.out _ HX.out).2.1)
    go_upto_region 4 with (go_at_call 31; go_loud (refine (HNN.out _ (HALL.out _ HX.out).2.2).mono ?_; rintro e w2 ⟨hb, rfl⟩; have HXN := Lib.hid (bt HX.out (Nat.le_refl _) hb); clear HX hb c0 c1 c2 c3 c4 c5 c6 c7 c8 c9 c10 y0 y1 y2; have HX := HXN; clear HXN; obtain ⟨c0, c1, c2, c3, c4, c5, c6, c7, c8, c9, c10⟩ := rbox_of (HALL.out _ HX.out).1; obtain ⟨y0, y1, y2⟩ := trio_of (HALL.out _ HX.out).2.1))
    have HXN := Lib.hid (HX.out.alloc HX.out.size (.cells #[.int .i64 0, .slice none 0 0, .slice none 0 0, .slice none 0 0, .slice none 0 0, .slice none 0 0, .slice none 0 0, .slice none 0 0, .slice none 0 0, .slice none 0 0, .slice none 0 0] 29))
    clear HX c0 c1 c2 c3 c4 c5 c6 c7 c8 c9 c10 y0 y1 y2
    have HX := HXN
    clear HXN
    obtain ⟨c0, c1, c2, c3, c4, c5, c6, c7, c8, c9, c10⟩ := rbox_of (HALL.out _ HX.out).1
    obtain ⟨y0, y1, y2⟩ := trio_of (HALL.out _ HX.out).2.1
    go_wp2_with (go_at_call 24; refine (HR1.out _ (HALL.out _ HX.out).2.2).mono ?_; rintro e w3 ⟨hb, A1, q1, q2, rfl, _⟩; have HXN := Lib.hid (bt HX.out (Nat.le_refl _) hb); clear HX hb c0 c1 c2 c3 c4 c5 c6 c7 c8 c9 c10 y0 y1 y2; have HX := HXN; clear HXN; obtain ⟨c0, c1, c2, c3, c4, c5, c6, c7, c8, c9, c10⟩ := rbox_of (HALL.out _ HX.out).1; obtain ⟨y0, y1, y2⟩ := trio_of (HALL.out _ HX.out).2.1)
    go_ret
    exact ⟨rfl, (HALL.out _ HX.out).2.2⟩
end Go.Proofs.Ytdladffjenfikaa

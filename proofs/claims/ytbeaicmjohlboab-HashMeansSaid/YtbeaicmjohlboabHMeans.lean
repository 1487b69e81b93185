/- Hash: HashMeans: the walk of the statement. -/
import Derived.Test.YtbeaicmjohlboabHshX
import Derived.Test.YtbeaicmjohlboabHshD
import Derived.Test.YtbeaicmjohlboabArgS
namespace Go.Proofs.Ytbeaicmjohlboab
open Go.RowKit Go.Maps

section
variable {C : Circ} {O : List Int}
theorem blt_ok (hz : (checkR C).2 = 0) (hO : IsOrd C O) (ok : C.Ok) : (bldX C O).Ok := (right_of (bld_seq hz hO).check).ok ok.s ok.sn
theorem blt_fit (hz : (checkR C).2 = 0) (hO : IsOrd C O) (st row : List Bool) : fitE (bldX C O) st row = fitE C st row := by
  unfold fitE
  rw [if_pos hz, if_pos (bld_seq hz hO).check]
  have e1 : (bldX C O).latches.length = C.latches.length := by simp [bldX, bldC]
  have e2 : (bldX C O).inputs.length = C.inputs.length := by simp [bldX, bldC]
  rw [e1, e2]
abbrev ordX (C : Circ) (O : List Int) : List Int := intRange (bldX C O).ands.length
theorem blt_val (hz : (checkR C).2 = 0) (hO : IsOrd C O) {st row : List Bool} (hf : fitE C st row = 0) (v : Nat) : (valF C O st row).getD v false = litV (valF (bldX C O) (ordX C O) st row) ((bldM C O).getD v 0) := by
  obtain ⟨_, h1, h2⟩ := fitE_ok hf
  have hX := bld_seq hz hO
  exact bld_sem hz hO h1 h2 (valOk hz hO h1 h2) (valOk hX.check hX.ord (by rw [h1]; simp [bldX, bldC]) (by rw [h2]; simp [bldX, bldC])) v
theorem blt_lit (hz : (checkR C).2 = 0) (hO : IsOrd C O) {st row : List Bool} (hf : fitE C st row = 0) (l : Int) : litV (valF (bldX C O) (ordX C O) st row) (mvX (bldM C O) l) = litV (valF C O st row) l := litV_mvX (blt_val hz hO hf _)
theorem blt_next (hz : (checkR C).2 = 0) (hO : IsOrd C O) {st row : List Bool} (hf : fitE C st row = 0) : nextF (bldX C O) (valF (bldX C O) (ordX C O) st row) = nextF C (valF C O st row) := by
  unfold nextF
  show ((C.latches.map _).map _) = _
  rw [List.map_map]
  exact List.map_congr_left fun z _ => blt_lit hz hO hf z.2.1
theorem blt_holds (hz : (checkR C).2 = 0) (hO : IsOrd C O) {st row : List Bool} (hf : fitE C st row = 0) : holdsF (bldX C O) (valF (bldX C O) (ordX C O) st row) = holdsF C (valF C O st row) := by
  unfold holdsF
  show ((C.constraints.map _).all _) = _
  rw [List.all_map]
  congr 1
  funext l
  exact blt_lit hz hO hf l
end

set_option maxHeartbeats 20000000 in
set_option maxRecDepth 100000 in
theorem hashMeans_walk (w : World) (V : CV) (C : Circ) (sv : Value) (st : List Bool) (rv : Value) (row : List Bool) (h : C.In w V) (ok : C.Ok) (rm : C.Room ∧ C.Reach) (hs : RowE 1 encO w sv st) (_hsb : st.length ≤ 140737488351232) (hr : RowE 1 encO w rv row) (_hrb : row.length ≤ 140737488351232) :
    Calls Try.prog 5 #[V.val C.max, sv, rv] w fun e w' => e = .returned (.bool true) ∧ Below w.heap.size w w' := by
  obtain ⟨rm, _⟩ := rm
  obtain ⟨O, hO⟩ := ord_ex h ok
  have hb0 := (Below.refl w.heap.size w).alloc (Nat.le_refl _) (.cells (V.cells C.max) 51)
  have hbx0 := Blk.new w 51 (V.cells C.max)
  obtain ⟨W1, hW1⟩ : ∃ W1, w.alloc (.cells (V.cells C.max) 51) = W1 := ⟨_, rfl⟩
  rw [hW1] at hb0 hbx0
  have HW1 := Lib.hid hW1
  have HWK := Lib.hid (fun wz => worksH_any wz)
  have HALL : Hid (∀ wz, Below W1.heap.size W1 wz → wz.heap[w.heap.size]? = some (.cells (V.cells C.max) 51 (0, 0)) ∧ C.In wz V ∧ RowE 1 encO wz sv st ∧ RowE 1 encO wz rv row ∧ Below w.heap.size w wz) := Lib.hid (fun wz hb => by
    have h2 := bt hb0 (Nat.le_refl _) hb
    exact ⟨hbx0.below hb hbx0.lt, h.below h2, hs.below h2, hr.below h2, h2⟩)
  obtain ⟨sA, sn, sc, hse⟩ := slO_form hs
  obtain ⟨rA, rn, rc, hre⟩ := slO_form hr
  subst hse hre
  by_cases hz : (checkR C).2 = 0
  · have hO1 := hO hz
    have HXOK := Lib.hid (blt_ok hz hO1 ok)
    have HFX := Lib.hid (blt_fit hz hO1 st row)
    have HSEQ := Lib.hid (bld_seq hz hO1)
    have HHZ := Lib.hid hz
    have HHO := Lib.hid hO1
    have HRT := Lib.hid (right_of hz)
    have HBLD := Lib.hid (fun (wx : World) (hx : C.In wx V) => Build_ok wx V C O hx ok rm hz hO1)
    have HVC := Lib.hid (fun (wx : World) (hx : C.In wx V) (hy : RowE 1 encO wx (.slice sA sn sc) st) (hw : RowE 1 encO wx (.slice rA rn rc) row) => Values_any wx V C _ _ st row O hx ok hy hw hO)
    have HNC := Lib.hid (fun (wx : World) (hx : C.In wx V) (hy : RowE 1 encO wx (.slice sA sn sc) st) (hw : RowE 1 encO wx (.slice rA rn rc) row) => Next_any wx V C _ _ st row O hx ok hy hw hO)
    have HHC := Lib.hid (fun (wx : World) (hx : C.In wx V) (hy : RowE 1 encO wx (.slice sA sn sc) st) (hw : RowE 1 encO wx (.slice rA rn rc) row) => Holds_any wx V C _ _ st row O hx ok hy hw hO)
    obtain ⟨X, hX⟩ : ∃ X, bldX C O = X := ⟨_, rfl⟩
    obtain ⟨M, hM⟩ : ∃ X, bldM C O = X := ⟨_, rfl⟩
    have HML : Hid (M.length = C.max.toNat + 1) := Lib.hid (by rw [← hM]; exact (tellI_of (fine_of hz) hO1).len)
    have HMR : Hid (∀ l, 0 ≤ mvX M l ∧ mvX M l ≤ 2 * X.max + 1) := Lib.hid (fun l => by rw [← hM, ← hX]; exact mvX_lt (fine_of hz) hO1 l)
    have HVAL : Hid (fitE C st row = 0 → ∀ v, (valF C O st row).getD v false = litV (valF X (intRange X.ands.length) st row) (M.getD v 0)) := Lib.hid (fun hf v => by rw [← hM, ← hX]; exact blt_val hz hO1 hf v)
    have HLITB : Hid (fitE C st row = 0 → ∀ l, litV (valF X (intRange X.ands.length) st row) (mvX M l) = litV (valF C O st row) l) := Lib.hid (fun hf l => by rw [← hM, ← hX]; exact blt_lit hz hO1 hf l)
    have HNXT : Hid (fitE C st row = 0 → nextF X (valF X (intRange X.ands.length) st row) = nextF C (valF C O st row)) := Lib.hid (fun hf => by rw [← hX]; exact blt_next hz hO1 hf)
    have HHLD : Hid (fitE C st row = 0 → holdsF X (valF X (intRange X.ands.length) st row) = holdsF C (valF C O st row)) := Lib.hid (fun hf => by rw [← hX]; exact blt_holds hz hO1 hf)
    have HBAD : Hid (X.bads = C.bads.map (mvX M) ∧ X.latches.length = C.latches.length) := Lib.hid (by rw [← hX, ← hM]; exact ⟨rfl, by simp [bldX, bldC]⟩)
    rw [hX] at HXOK HFX HSEQ HBLD
    rw [hM] at HBLD
    have HVX := Lib.hid (fun (wx : World) (U : CV) (hx : X.In wx U) (hy : RowE 1 encO wx (.slice sA sn sc) st) (hw : RowE 1 encO wx (.slice rA rn rc) row) => Values_any wx U X _ _ st row _ hx HXOK.out hy hw (fun _ => HSEQ.out.ord))
    have HNX := Lib.hid (fun (wx : World) (U : CV) (hx : X.In wx U) (hy : RowE 1 encO wx (.slice sA sn sc) st) (hw : RowE 1 encO wx (.slice rA rn rc) row) => Next_any wx U X _ _ st row _ hx HXOK.out hy hw (fun _ => HSEQ.out.ord))
    have HHX := Lib.hid (fun (wx : World) (U : CV) (hx : X.In wx U) (hy : RowE 1 encO wx (.slice sA sn sc) st) (hw : RowE 1 encO wx (.slice rA rn rc) row) => Holds_any wx U X _ _ st row _ hx HXOK.out hy hw (fun _ => HSEQ.out.ord))
    rw [HFX.out] at HVX HNX HHX
    obtain ⟨xm, hxm⟩ : ∃ k, X.max = k := ⟨_, rfl⟩
    obtain ⟨nm, hnm⟩ : ∃ k, C.max.toNat + 1 = k := ⟨_, rfl⟩
    rw [hxm] at HBLD HVX HNX HHX HMR
    rw [hnm] at HBLD HML HVC
    have HXM := Lib.hid hxm
    have HNM := Lib.hid hnm
    clear h ok rm hO hz hO1 hb0 hbx0 hW1 hs hr hX hM hxm hnm
    go_enter Try.func5, Try.ntmps5
    go_upto_region 1 with (fail)
    rw [HW1.out]
    go_upto_region 3 with (go_at_call 10; refine (HWK.out _).mono ?_; rintro e w2 ⟨rfl, hb2⟩; have HB2 := Lib.hid hb2; clear hb2)
    have HC2 := Lib.hid (HALL.out w2 HB2.out)
    go_upto_region 4 with (first
      | (refine wpList_load_row rfl 51 (.tmp 3) rfl w.heap.size rfl 51 (V.cells C.max) (0, 0) _ HC2.out.1 Try.underlying51 rfl (by kernel_rfl) ?_)
      | (go_at_call 16; refine (HBLD.out w2 HC2.out.2.1).mono ?_; rintro e w3 ⟨hb3, V', us, g, B', rfl, hg1, hg2, hg3, hcop, hnum⟩; obtain ⟨Yi, Yl, Yo, Yb, Yc, Yj, Yf, Ya, Ys, Yt⟩ := V'; obtain ⟨Bi, ei, hYi⟩ := own_slice (hcop.fam.own (Yi, X.inputs) (by simp)); obtain ⟨Bl, el, hYl⟩ := own_slice_k hcop.l; obtain ⟨Bo, eo, hYo⟩ := own_slice (hcop.fam.own (Yo, X.outputs) (by simp)); obtain ⟨Bb, eb, hYb⟩ := own_slice (hcop.fam.own (Yb, X.bads) (by simp)); obtain ⟨Bc, ec, hYc⟩ := own_slice (hcop.fam.own (Yc, X.constraints) (by simp)); obtain ⟨Bj, ej, hYj⟩ := own_slice_k hcop.j; obtain ⟨Bf, ef, hYf⟩ := own_slice (hcop.fam.own (Yf, X.fairness) (by simp)); obtain ⟨Ba, ea, hYa⟩ := own_slice_k hcop.a; obtain ⟨Bs, es, hYs⟩ := own_slice_k hcop.s; obtain ⟨Bt, et, hYt⟩ := own_slice_k hcop.t; simp only at hYi hYl hYo hYb hYc hYj hYf hYa hYs hYt; subst hYi hYl hYo hYb hYc hYj hYf hYa hYs hYt; have HB3 := Lib.hid (bt HB2.out (Nat.le_refl _) hb3); have HI3 := Lib.hid hcop.in_; have HN3 := Lib.hid hnum; clear hb3 hcop hnum hg1 hg2 hg3))
    have hb4 : Below w3.heap.size w3 (w3.alloc (.cells #[.int .i64 xm, .slice Bi X.inputs.length ei, .slice Bl X.latches.length el, .slice Bo X.outputs.length eo, .slice Bb X.bads.length eb, .slice Bc X.constraints.length ec, .slice Bj us.length ej, .slice Bf X.fairness.length ef, .slice Ba X.ands.length ea, .slice Bs X.symbols.length es, .slice Bt X.comments.length et] 51)) := (Below.refl _ _).alloc (Nat.le_refl _) _
    have hx4 := Blk.new w3 51 #[.int .i64 xm, .slice Bi X.inputs.length ei, .slice Bl X.latches.length el, .slice Bo X.outputs.length eo, .slice Bb X.bads.length eb, .slice Bc X.constraints.length ec, .slice Bj us.length ej, .slice Bf X.fairness.length ef, .slice Ba X.ands.length ea, .slice Bs X.symbols.length es, .slice Bt X.comments.length et]
    obtain ⟨W4, hW4⟩ : ∃ W4, w3.alloc (.cells #[.int .i64 xm, .slice Bi X.inputs.length ei, .slice Bl X.latches.length el, .slice Bo X.outputs.length eo, .slice Bb X.bads.length eb, .slice Bc X.constraints.length ec, .slice Bj us.length ej, .slice Bf X.fairness.length ef, .slice Ba X.ands.length ea, .slice Bs X.symbols.length es, .slice Bt X.comments.length et] 51) = W4 := ⟨_, rfl⟩
    rw [hW4] at hb4 hx4
    rw [hW4]
    obtain ⟨xb, hxb⟩ : ∃ xb, w3.heap.size = xb := ⟨_, rfl⟩
    have HA : Hid (∀ wz, Below W4.heap.size W4 wz → wz.heap[w.heap.size]? = some (.cells (V.cells C.max) 51 (0, 0)) ∧ wz.heap[xb]? = some (.cells #[.int .i64 xm, .slice Bi X.inputs.length ei, .slice Bl X.latches.length el, .slice Bo X.outputs.length eo, .slice Bb X.bads.length eb, .slice Bc X.constraints.length ec, .slice Bj us.length ej, .slice Bf X.fairness.length ef, .slice Ba X.ands.length ea, .slice Bs X.symbols.length es, .slice Bt X.comments.length et] 51 (0, 0)) ∧ C.In wz V ∧ X.In wz ⟨.slice Bi X.inputs.length ei, .slice Bl X.latches.length el, .slice Bo X.outputs.length eo, .slice Bb X.bads.length eb, .slice Bc X.constraints.length ec, .slice Bj us.length ej, .slice Bf X.fairness.length ef, .slice Ba X.ands.length ea, .slice Bs X.symbols.length es, .slice Bt X.comments.length et⟩ ∧ RowE 1 encO wz (.slice sA sn sc) st ∧ RowE 1 encO wz (.slice rA rn rc) row ∧ Nums wz g M ∧ Below w.heap.size w wz) := Lib.hid (fun wz hb => by
      have h3 : Below w3.heap.size w3 wz := bt hb4 (Nat.le_refl _) hb
      have h1 := bt HB3.out (Nat.le_refl _) h3
      obtain ⟨k1, k2, k3, k4, k5⟩ := HALL.out wz h1
      rw [hxb] at hx4
      exact ⟨k1, hx4.below hb hx4.lt, k2, HI3.out.below h3, k3, k4, Blk.below HN3.out h3 (Blk.lt HN3.out), k5⟩)
    rw [hxb]
    have HX4 : Hid (Below W4.heap.size W4 W4) := Lib.hid (Below.refl _ _)
    clear hb4 hx4 hW4 hxb HALL HB3 HI3 HN3 HC2 HB2
    have HC4 := Lib.hid (HA.out W4 HX4.out)
    by_cases hfe : fitE C st row = 0
    · rw [hfe] at HVC HVX HNC HNX HHC HHX
      have HFE := Lib.hid hfe
      obtain ⟨T, hT⟩ : ∃ T, valF C O st row = T := ⟨_, rfl⟩
      obtain ⟨T', hT'⟩ : ∃ T, valF X (intRange X.ands.length) st row = T := ⟨_, rfl⟩
      obtain ⟨nx, hnx⟩ : ∃ k, xm.toNat + 1 = k := ⟨_, rfl⟩
      have hxm1 := HSEQ.out.m1
      have hxm0 := HSEQ.out.m
      rw [HXM.out] at hxm0 hxm1
      have HTL : Hid (T.length = nm ∧ T'.length = nx) := Lib.hid ⟨by rw [← hT, valF_len]; exact HNM.out, by rw [← hT', valF_len, HXM.out]; exact hnx⟩
      have hvl := HVAL.out hfe
      have hlb := HLITB.out hfe
      have hnx2 := HNXT.out hfe
      have hhl := HHLD.out hfe
      rw [hT] at HVC HNC HHC hvl hlb hnx2 hhl
      rw [hT'] at HVX HNX HHX hvl hlb hnx2 hhl
      rw [hnx] at HVX
      have HVL := Lib.hid hvl
      have HLB := Lib.hid hlb
      rw [hnx2] at HNX
      rw [hhl] at HHX
      have HNXE := Lib.hid hnx
      have hxr : 0 ≤ xm ∧ xm ≤ 16384 := by omega
      have HXR := Lib.hid hxr
      clear hfe hT hT' hxm0 hxm1 hvl hlb hnx2 hhl hnx hxr HVAL HLITB HNXT HHLD
      go_upto_region 7 with (first
        | (refine wpList_load_row rfl 51 (.tmp 3) rfl w.heap.size rfl 51 (V.cells C.max) (0, 0) _ HC4.out.1 Try.underlying51 rfl (by kernel_rfl) ?_)
        | (go_at_call 23; refine (HVC.out W4 HC4.out.2.2.1 HC4.out.2.2.2.2.1 HC4.out.2.2.2.2.2.1).mono ?_; rintro e w5 ⟨hb5, v5, rfl, _, hy5⟩; obtain ⟨g1, rfl, _, ht5⟩ := hy5 (by first | rfl | trivial); have HB5 := Lib.hid hb5; have HT5 := Lib.hid ht5; clear hb5 hy5 ht5))
      have HC5 := Lib.hid (HA.out w5 HB5.out)
      go_upto_region 8 with (first
        | (refine wpList_load_row rfl 51 (.tmp 7) rfl xb rfl 51 #[.int .i64 xm, .slice Bi X.inputs.length ei, .slice Bl X.latches.length el, .slice Bo X.outputs.length eo, .slice Bb X.bads.length eb, .slice Bc X.constraints.length ec, .slice Bj us.length ej, .slice Bf X.fairness.length ef, .slice Ba X.ands.length ea, .slice Bs X.symbols.length es, .slice Bt X.comments.length et] (0, 0) _ HC5.out.2.1 Try.underlying51 rfl (by kernel_rfl) ?_)
        | (go_at_call 23; refine (HVX.out w5 _ HC5.out.2.2.2.1 HC5.out.2.2.2.2.1 HC5.out.2.2.2.2.2.1).mono ?_; rintro e w6 ⟨hb6, v6, rfl, _, hy6⟩; obtain ⟨g2, rfl, _, ht6⟩ := hy6 (by first | rfl | trivial); have HB6 := Lib.hid hb6; have HT6 := Lib.hid ht6; clear hb6 hy6 ht6))
      have HA6 : Hid (∀ wz, Below w6.heap.size w6 wz → wz.heap[w.heap.size]? = some (.cells (V.cells C.max) 51 (0, 0)) ∧ wz.heap[xb]? = some (.cells #[.int .i64 xm, .slice Bi X.inputs.length ei, .slice Bl X.latches.length el, .slice Bo X.outputs.length eo, .slice Bb X.bads.length eb, .slice Bc X.constraints.length ec, .slice Bj us.length ej, .slice Bf X.fairness.length ef, .slice Ba X.ands.length ea, .slice Bs X.symbols.length es, .slice Bt X.comments.length et] 51 (0, 0)) ∧ C.In wz V ∧ X.In wz ⟨.slice Bi X.inputs.length ei, .slice Bl X.latches.length el, .slice Bo X.outputs.length eo, .slice Bb X.bads.length eb, .slice Bc X.constraints.length ec, .slice Bj us.length ej, .slice Bf X.fairness.length ef, .slice Ba X.ands.length ea, .slice Bs X.symbols.length es, .slice Bt X.comments.length et⟩ ∧ RowE 1 encO wz (.slice sA sn sc) st ∧ RowE 1 encO wz (.slice rA rn rc) row ∧ Nums wz g M ∧ Below w.heap.size w wz ∧ Tab wz g1 T ∧ Tab wz g2 T') := Lib.hid (fun wz hb => by
        obtain ⟨k1, k2, k3, k4, k5, k6, k7, k8⟩ := HA.out wz (bt HB5.out (Nat.le_refl _) (bt HB6.out (Nat.le_refl _) hb))
        have t1 := Blk.below HT5.out (bt HB6.out (Nat.le_refl _) hb) (Blk.lt HT5.out)
        exact ⟨k1, k2, k3, k4, k5, k6, k7, k8, t1, Blk.below HT6.out hb (Blk.lt HT6.out)⟩)
      have HX6 : Hid (Below w6.heap.size w6 w6) := Lib.hid (Below.refl _ _)
      have c0 : w6.cell? ⟨w.heap.size, 0, none⟩ = some (.int .i64 C.max) := (show Blk w6 w.heap.size 51 (V.cells C.max) from (HA6.out w6 HX6.out).1).cell 0
      have hmm : IntKind.i64.wrap (C.max + 1) = C.max + 1 := by simp [IntKind.wrap, IntKind.bits, IntKind.signed]; have := HRT.out.m0; have := HRT.out.m1; omega
      have hnq : (nm : Int) = C.max + 1 := by rw [← HNM.out]; have := HRT.out.m0; omega
      have hlq : ((nm : Int) != C.max + 1) = false := by simp [hnq]
      have hnmb : nm ≤ 16385 := by have := HRT.out.m1; omega
      clear hnq HB5 HB6 HT5 HT6 HC5 HC4 HX4 HA
      go_wp2
      clear c0 hmm hlq
      go_loopg [72] nm (fun j iv wx => ∃ k : Nat, k ≤ nm ∧ j = nm - k ∧ iv = .int .i64 k ∧ Below w6.heap.size w6 wx)
      case atStart => exact ⟨0, Nat.zero_le _, rfl, rfl, HX6.out⟩
      case round =>
        obtain ⟨k, hk, hgk, rfl, hbw⟩ := hrel
        subst hgk
        have HBW := Lib.hid hbw
        clear hbw HX6
        by_cases hlt : k < nm
        · have hbd : Below w6.heap.size w6 wr.drew := HBW.out.drew
          obtain ⟨_, x2, _, _, _, _, x7, _, x9, x10⟩ := HA6.out wr.drew hbd
          have HBD := Lib.hid hbd
          obtain ⟨l, hl⟩ : ∃ l, M[k]? = some l := ⟨_, List.getElem?_eq_getElem (by rw [HML.out]; exact hlt)⟩
          have cg := Nums.cell (HA6.out wr HBW.out).2.2.2.2.2.2.1 hl
          have hlg : M.getD k 0 = l := by simp [List.getD, hl]
          have hrg := HMR.out (2 * (k : Int))
          have hmv : mvX M (2 * (k : Int)) = l := by unfold mvX; rw [if_pos (by omega), show (2 * (k : Int) / 2).toNat = k by omega, hlg]
          rw [hmv] at hrg
          obtain ⟨b, hb⟩ : ∃ b, T.getD k false = b := ⟨_, rfl⟩
          have hvl := HVL.out k
          rw [hb, hlg] at hvl
          have cb := Tab.cell x9 (show T[k]? = some b by rw [← hb]; exact getD_bool (by rw [HTL.out.1]; exact hlt))
          have cx : wr.drew.cell? ⟨xb, 0, none⟩ = some (.int .i64 xm) := (show Blk wr.drew xb 51 #[.int .i64 xm, .slice Bi X.inputs.length ei, .slice Bl X.latches.length el, .slice Bo X.outputs.length eo, .slice Bb X.bads.length eb, .slice Bc X.constraints.length ec, .slice Bj us.length ej, .slice Bf X.fairness.length ef, .slice Ba X.ands.length ea, .slice Bs X.symbols.length es, .slice Bt X.comments.length et] from x2).cell 0
          have hxr := HXR.out
          have hnx := HNXE.out
          have HLIT := Lib.hid (litH_any wr.drew g2 nx T' l x10 HTL.out.2 hrg.1 (by omega) (by omega))
          rw [← hvl] at HLIT
          have e1 : IntKind.i64.wrap (2 * xm) = 2 * xm := by simp [IntKind.wrap, IntKind.bits, IntKind.signed]; omega
          have e2 : IntKind.i64.wrap (2 * xm + 1) = 2 * xm + 1 := by simp [IntKind.wrap, IntKind.bits, IntKind.signed]; omega
          have l0 : ¬ l < 0 := by omega
          have l1 : ¬ 2 * xm + 1 < l := by omega
          have hk0 : (0 : Int) ≤ (k : Int) := by omega
          have hk1 : (k : Int) < (nm : Int) := by omega
          have hbb : (b != b) = false := by simp
          clear x2 x7 x9 x10 hl hlg hrg hmv hb hvl hnx hbd hxr
          go_upto_region 15 with (fail)
          refine wp_region_T (by kernel_rfl) (fun w' => w'.cell? ⟨xb, 0, none⟩ = some (.int .i64 xm) ∧ w'.cell? ⟨g1, k, none⟩ = some (.bool b)) 20 ?_
          have hHeld : wr.drew.cell? ⟨xb, 0, none⟩ = some (.int .i64 xm) ∧ wr.drew.cell? ⟨g1, k, none⟩ = some (.bool b) := ⟨cx, cb⟩
          refine wpAnyT_take (i := 0) (oi := { dst := some 77, op := Op.move (Operand.tmp 15), type := 3, pos := "theorems.go:45", after := #[], guard := none }) (v := ?v0r15q1) rfl (by kernel_rfl) (fun _ _ _ h => h) (by rfl) hHeld ?h0r15q1 ?_
          case h0r15q1 => (intro w' hSw; (try dsimp only at hSw); go_simp; try with_reducible rfl)
          (try simp only [Act.put, List.setIfInBounds_toArray, List.set_cons_zero, List.set_cons_succ])
          refine wpAnyT_take (i := 1) (oi := { dst := some 78, op := Op.binOp BinOp.lss 3 (Operand.tmp 77) (Operand.const (Value.int IntKind.i64 0)) 3, type := 4, pos := "theorems.go:45", after := #[{ on := 0, ground := Ground.data }], guard := none }) (v := ?v1r15q1) rfl (by kernel_rfl) (fun _ _ _ h => h) (by rfl) hHeld ?h1r15q1 ?_
          case h1r15q1 => (intro w' hSw; (try dsimp only at hSw); go_simp; try with_reducible rfl)
          (try simp only [Act.put, List.setIfInBounds_toArray, List.set_cons_zero, List.set_cons_succ])
          refine wpAnyT_take (i := 2) (oi := { dst := some 79, op := Op.move (Operand.tmp 78), type := 4, pos := "theorems.go:45", after := #[{ on := 1, ground := Ground.data }], guard := none }) (v := ?v2r15q1) rfl (by kernel_rfl) (fun _ _ _ h => h) (by rfl) hHeld ?h2r15q1 ?_
          case h2r15q1 => (intro w' hSw; (try dsimp only at hSw); go_simp; try with_reducible rfl)
          (try simp only [Act.put, List.setIfInBounds_toArray, List.set_cons_zero, List.set_cons_succ])
          refine wpAnyT_take (i := 3) (oi := { dst := some 80, op := Op.move (Operand.tmp 15), type := 3, pos := "theorems.go:45", after := #[{ on := 2, ground := Ground.guard }], guard := some (2, false) }) (v := ?v3r15q1) rfl (by kernel_rfl) (fun _ _ _ h => h) (by rfl) hHeld ?h3r15q1 ?_
          case h3r15q1 => (intro w' hSw; (try dsimp only at hSw); go_simp; try with_reducible rfl)
          (try simp only [Act.put, List.setIfInBounds_toArray, List.set_cons_zero, List.set_cons_succ])
          refine wpAnyT_take (i := 4) (oi := { dst := some 81, op := Op.fieldAddr 51 (Operand.tmp 7) 0, type := 0, pos := "theorems.go:45", after := #[{ on := 2, ground := Ground.guard }], guard := some (2, false) }) (v := ?v4r15q1) rfl (by kernel_rfl) (fun _ _ _ h => h) (by rfl) hHeld ?h4r15q1 ?_
          case h4r15q1 => (intro w' hSw; (try dsimp only at hSw); go_simp; try with_reducible rfl)
          (try simp only [Act.put, List.setIfInBounds_toArray, List.set_cons_zero, List.set_cons_succ])
          refine wpAnyT_take (i := 5) (oi := { dst := some 82, op := Op.load 3 (Operand.tmp 81), type := 3, pos := "theorems.go:45", after := #[{ on := 4, ground := Ground.data }, { on := 2, ground := Ground.guard }], guard := some (2, false) }) (v := ?v5r15q1) rfl (by kernel_rfl) (fun _ _ _ h => h) (by rfl) hHeld ?h5r15q1 ?_
          case h5r15q1 => (intro w' hSw; (try dsimp only at hSw); go_simp; try with_reducible rfl)
          (try simp only [Act.put, List.setIfInBounds_toArray, List.set_cons_zero, List.set_cons_succ])
          refine wpAnyT_take (i := 6) (oi := { dst := some 83, op := Op.binOp BinOp.mul 3 (Operand.const (Value.int IntKind.i64 2)) (Operand.tmp 82) 3, type := 3, pos := "theorems.go:45", after := #[{ on := 5, ground := Ground.data }, { on := 2, ground := Ground.guard }], guard := some (2, false) }) (v := ?v6r15q1) rfl (by kernel_rfl) (fun _ _ _ h => h) (by rfl) hHeld ?h6r15q1 ?_
          case h6r15q1 => (intro w' hSw; (try dsimp only at hSw); go_simp; try with_reducible rfl)
          (try simp only [Act.put, List.setIfInBounds_toArray, List.set_cons_zero, List.set_cons_succ])
          refine wpAnyT_take (i := 7) (oi := { dst := some 84, op := Op.binOp BinOp.add 3 (Operand.tmp 83) (Operand.const (Value.int IntKind.i64 1)) 3, type := 3, pos := "theorems.go:45", after := #[{ on := 6, ground := Ground.data }, { on := 2, ground := Ground.guard }], guard := some (2, false) }) (v := ?v7r15q1) rfl (by kernel_rfl) (fun _ _ _ h => h) (by rfl) hHeld ?h7r15q1 ?_
          case h7r15q1 => (intro w' hSw; (try dsimp only at hSw); go_simp; try with_reducible rfl)
          (try simp only [Act.put, List.setIfInBounds_toArray, List.set_cons_zero, List.set_cons_succ])
          refine wpAnyT_take (i := 8) (oi := { dst := some 85, op := Op.binOp BinOp.gtr 3 (Operand.tmp 80) (Operand.tmp 84) 3, type := 4, pos := "theorems.go:45", after := #[{ on := 3, ground := Ground.data }, { on := 7, ground := Ground.data }, { on := 2, ground := Ground.guard }], guard := some (2, false) }) (v := ?v8r15q1) rfl (by kernel_rfl) (fun _ _ _ h => h) (by rfl) hHeld ?h8r15q1 ?_
          case h8r15q1 => (intro w' hSw; (try dsimp only at hSw); go_simp; try with_reducible rfl)
          (try simp only [Act.put, List.setIfInBounds_toArray, List.set_cons_zero, List.set_cons_succ])
          refine wpAnyT_take (i := 9) (oi := { dst := some 86, op := Op.pick (Operand.tmp 79) (Operand.const (Value.bool true)) (Operand.tmp 85), type := 4, pos := "theorems.go:45", after := #[{ on := 2, ground := Ground.data }, { on := 8, ground := Ground.data }], guard := none }) (v := ?v9r15q1) rfl (by kernel_rfl) (fun _ _ _ h => h) (by rfl) hHeld ?h9r15q1 ?_
          case h9r15q1 => (intro w' hSw; (try dsimp only at hSw); go_simp; try with_reducible rfl)
          (try simp only [Act.put, List.setIfInBounds_toArray, List.set_cons_zero, List.set_cons_succ])
          refine wpAnyT_take (i := 10) (oi := { dst := some 87, op := Op.move (Operand.tmp 86), type := 4, pos := "theorems.go:45", after := #[{ on := 9, ground := Ground.data }, { on := 2, ground := Ground.chain }], guard := none }) (v := ?v10r15q1) rfl (by kernel_rfl) (fun _ _ _ h => h) (by rfl) hHeld ?h10r15q1 ?_
          case h10r15q1 => (intro w' hSw; (try dsimp only at hSw); go_simp; try with_reducible rfl)
          (try simp only [Act.put, List.setIfInBounds_toArray, List.set_cons_zero, List.set_cons_succ])
          refine wpAnyT_take (i := 11) (oi := { dst := some 88, op := Op.move (Operand.tmp 10), type := 60, pos := "theorems.go:45", after := #[{ on := 10, ground := Ground.guard }], guard := some (10, false) }) (v := ?v11r15q1) rfl (by kernel_rfl) (fun _ _ _ h => h) (by rfl) hHeld ?h11r15q1 ?_
          case h11r15q1 => (intro w' hSw; (try dsimp only at hSw); go_simp; try with_reducible rfl)
          (try simp only [Act.put, List.setIfInBounds_toArray, List.set_cons_zero, List.set_cons_succ])
          refine wpAnyT_take (i := 12) (oi := { dst := some 89, op := Op.move (Operand.tmp 14), type := 3, pos := "theorems.go:45", after := #[{ on := 10, ground := Ground.guard }], guard := some (10, false) }) (v := ?v12r15q1) rfl (by kernel_rfl) (fun _ _ _ h => h) (by rfl) hHeld ?h12r15q1 ?_
          case h12r15q1 => (intro w' hSw; (try dsimp only at hSw); go_simp; try with_reducible rfl)
          (try simp only [Act.put, List.setIfInBounds_toArray, List.set_cons_zero, List.set_cons_succ])
          refine wpAnyT_take (i := 13) (oi := { dst := some 90, op := Op.indexAddr 60 (Operand.tmp 88) (Operand.tmp 89), type := 0, pos := "theorems.go:45", after := #[{ on := 11, ground := Ground.data }, { on := 12, ground := Ground.data }, { on := 10, ground := Ground.guard }], guard := some (10, false) }) (v := ?v13r15q1) rfl (by kernel_rfl) (fun _ _ _ h => h) (by rfl) hHeld ?h13r15q1 ?_
          case h13r15q1 => (intro w' hSw; (try dsimp only at hSw); go_simp; try with_reducible rfl)
          (try simp only [Act.put, List.setIfInBounds_toArray, List.set_cons_zero, List.set_cons_succ])
          refine wpAnyT_take (i := 14) (oi := { dst := some 91, op := Op.load 4 (Operand.tmp 90), type := 4, pos := "theorems.go:45", after := #[{ on := 13, ground := Ground.data }, { on := 10, ground := Ground.guard }], guard := some (10, false) }) (v := ?v14r15q1) rfl (by kernel_rfl) (fun _ _ _ h => h) (by rfl) hHeld ?h14r15q1 ?_
          case h14r15q1 => (intro w' hSw; (try dsimp only at hSw); go_simp; try with_reducible rfl)
          (try simp only [Act.put, List.setIfInBounds_toArray, List.set_cons_zero, List.set_cons_succ])
          refine wpAnyT_take (i := 15) (oi := { dst := some 92, op := Op.move (Operand.tmp 12), type := 60, pos := "theorems.go:45", after := #[{ on := 10, ground := Ground.guard }], guard := some (10, false) }) (v := ?v15r15q1) rfl (by kernel_rfl) (fun _ _ _ h => h) (by rfl) hHeld ?h15r15q1 ?_
          case h15r15q1 => (intro w' hSw; (try dsimp only at hSw); go_simp; try with_reducible rfl)
          (try simp only [Act.put, List.setIfInBounds_toArray, List.set_cons_zero, List.set_cons_succ])
          refine wpAnyT_take (i := 16) (oi := { dst := some 93, op := Op.move (Operand.tmp 15), type := 3, pos := "theorems.go:45", after := #[{ on := 10, ground := Ground.guard }], guard := some (10, false) }) (v := ?v16r15q1) rfl (by kernel_rfl) (fun _ _ _ h => h) (by rfl) hHeld ?h16r15q1 ?_
          case h16r15q1 => (intro w' hSw; (try dsimp only at hSw); go_simp; try with_reducible rfl)
          (try simp only [Act.put, List.setIfInBounds_toArray, List.set_cons_zero, List.set_cons_succ])
          refine wpAnyT_one (i := 17) (o := { dst := some 94, op := Op.call { callee := Callee.value (Operand.func 24), args := #[Operand.tmp 92, Operand.tmp 93], argTypes := #[60, 3] }, type := 4, pos := "theorems.go:45", after := #[{ on := 15, ground := Ground.data }, { on := 16, ground := Ground.data }, { on := 10, ground := Ground.chain }, { on := 10, ground := Ground.guard }], guard := some (10, false) }) rfl (by kernel_rfl) (fun K hK => ?_)
          go_simp
          go_at_call 24
          refine HLIT.out.mono ?_
          rintro e w7 ⟨rfl, hw7⟩
          rw [hw7]
          clear hw7 w7
          refine hK.out _ _ (fun _ => hHeld) ?_
          clear hK K
          (try simp only [Act.put, List.setIfInBounds_toArray, List.set_cons_zero, List.set_cons_succ])
          refine wpAnyT_take (i := 18) (oi := { dst := some 95, op := Op.binOp BinOp.neq 4 (Operand.tmp 91) (Operand.tmp 94) 4, type := 4, pos := "theorems.go:45", after := #[{ on := 14, ground := Ground.data }, { on := 17, ground := Ground.data }, { on := 10, ground := Ground.guard }], guard := some (10, false) }) (v := ?v18r15q2) rfl (by kernel_rfl) (fun _ _ _ h => h) (by rfl) hHeld ?h18r15q2 ?_
          case h18r15q2 => (intro w' hSw; (try dsimp only at hSw); go_simp; try with_reducible rfl)
          (try simp only [Act.put, List.setIfInBounds_toArray, List.set_cons_zero, List.set_cons_succ])
          refine wpAnyT_take (i := 19) (oi := { dst := some 96, op := Op.pick (Operand.tmp 87) (Operand.const (Value.bool true)) (Operand.tmp 95), type := 4, pos := "theorems.go:45", after := #[{ on := 10, ground := Ground.data }, { on := 18, ground := Ground.data }], guard := none }) (v := ?v19r15q2) rfl (by kernel_rfl) (fun _ _ _ h => h) (by rfl) hHeld ?h19r15q2 ?_
          case h19r15q2 => (intro w' hSw; (try dsimp only at hSw); go_simp; try with_reducible rfl)
          (try simp only [Act.put, List.setIfInBounds_toArray, List.set_cons_zero, List.set_cons_succ])
          clear hHeld
          refine wpAnyT_done (by kernel_rfl) ?_
          go_wp2
          go_roundg (nm - (k + 1))
          case measure => omega
          case rel => exact ⟨k + 1, by omega, rfl, by go_num, HBD.out⟩
        · have hk1 : ¬ (k : Int) < (nm : Int) := by omega
          obtain ⟨Ab, cbd, hvb, _⟩ := (HA6.out wr HBW.out).2.2.1.b
          obtain ⟨nb, hnb⟩ : ∃ k, C.bads.length = k := ⟨_, rfl⟩
          obtain ⟨nL, hnL⟩ : ∃ k, C.latches.length = k := ⟨_, rfl⟩
          obtain ⟨N, hN⟩ : ∃ k, nextF C T = k := ⟨_, rfl⟩
          obtain ⟨hc, hhc⟩ : ∃ k, holdsF C T = k := ⟨_, rfl⟩
          have HNLEN : Hid (N.length = nL) := Lib.hid (by rw [← hN, nextF_len]; exact hnL)
          rw [HBAD.out.2] at HNX
          rw [hnL, hN] at HNC HNX
          rw [hhc] at HHC HHX
          rw [hnb] at hvb
          have HVB := Lib.hid hvb
          have HNB := Lib.hid hnb
          have hnlb : nL ≤ 16384 := by rw [← hnL]; exact HRT.out.nl
          have hnbb : nb ≤ 16384 := by rw [← hnb]; exact HRT.out.nb
          clear hvb hnb hnL hN hhc
          have HK0 := Lib.hid (HA6.out wr HBW.out)
          go_upto_region 19 with (first
            | (refine wpList_load_row rfl 51 (.tmp 3) rfl w.heap.size rfl 51 (V.cells C.max) (0, 0) _ HK0.out.1 Try.underlying51 rfl (by kernel_rfl) ?_)
            | (go_at_call 25; refine (HNC.out _ HK0.out.2.2.1 HK0.out.2.2.2.2.1 HK0.out.2.2.2.2.2.1).mono ?_; rintro e v1 ⟨hb, vv, rfl, _, hy⟩; obtain ⟨q1, rfl, _, ht⟩ := hy (by first | rfl | trivial); have HB1 := Lib.hid (bt HBW.out (Nat.le_refl _) hb); clear hb; have HQ1 := Lib.hid ht; clear ht hy))
          have HK1 := Lib.hid (HA6.out v1 HB1.out)
          go_upto_region 20 with (first
            | (refine wpList_load_row rfl 51 (.tmp 7) rfl xb rfl 51 #[.int .i64 xm, .slice Bi X.inputs.length ei, .slice Bl X.latches.length el, .slice Bo X.outputs.length eo, .slice Bb X.bads.length eb, .slice Bc X.constraints.length ec, .slice Bj us.length ej, .slice Bf X.fairness.length ef, .slice Ba X.ands.length ea, .slice Bs X.symbols.length es, .slice Bt X.comments.length et] (0, 0) _ HK1.out.2.1 Try.underlying51 rfl (by kernel_rfl) ?_)
            | (go_at_call 25; refine (HNX.out _ _ HK1.out.2.2.2.1 HK1.out.2.2.2.2.1 HK1.out.2.2.2.2.2.1).mono ?_; rintro e v2 ⟨hb, vv, rfl, _, hy⟩; obtain ⟨q2, rfl, _, ht⟩ := hy (by first | rfl | trivial); have HQ1B := Lib.hid (Blk.below HQ1.out hb (Blk.lt HQ1.out)); have HB2 := Lib.hid (bt HB1.out (Nat.le_refl _) hb); clear hb; have HQ2 := Lib.hid ht; clear ht hy))
          have HK2 := Lib.hid (HA6.out v2 HB2.out)
          go_upto_region 21 with (first
            | (refine wpList_load_row rfl 51 (.tmp 3) rfl w.heap.size rfl 51 (V.cells C.max) (0, 0) _ HK2.out.1 Try.underlying51 rfl (by kernel_rfl) ?_)
            | (go_at_call 26; refine (HHC.out _ HK2.out.2.2.1 HK2.out.2.2.2.2.1 HK2.out.2.2.2.2.2.1).mono ?_; rintro e v3 ⟨hb, vv, rfl, _, hy⟩; obtain rfl := hy (by first | rfl | trivial); have HQ1C := Lib.hid (Blk.below HQ1B.out hb (Blk.lt HQ1B.out)); have HQ2B := Lib.hid (Blk.below HQ2.out hb (Blk.lt HQ2.out)); have HB3 := Lib.hid (bt HB2.out (Nat.le_refl _) hb); clear hb; clear hy))
          have HK3 := Lib.hid (HA6.out v3 HB3.out)
          go_upto_region 22 with (first
            | (refine wpList_load_row rfl 51 (.tmp 7) rfl xb rfl 51 #[.int .i64 xm, .slice Bi X.inputs.length ei, .slice Bl X.latches.length el, .slice Bo X.outputs.length eo, .slice Bb X.bads.length eb, .slice Bc X.constraints.length ec, .slice Bj us.length ej, .slice Bf X.fairness.length ef, .slice Ba X.ands.length ea, .slice Bs X.symbols.length es, .slice Bt X.comments.length et] (0, 0) _ HK3.out.2.1 Try.underlying51 rfl (by kernel_rfl) ?_)
            | (go_at_call 26; refine (HHX.out _ _ HK3.out.2.2.2.1 HK3.out.2.2.2.2.1 HK3.out.2.2.2.2.2.1).mono ?_; rintro e v4 ⟨hb, vv, rfl, _, hy⟩; obtain rfl := hy (by first | rfl | trivial); have HQ1D := Lib.hid (Blk.below HQ1C.out hb (Blk.lt HQ1C.out)); have HQ2C := Lib.hid (Blk.below HQ2B.out hb (Blk.lt HQ2B.out)); have HB4 := Lib.hid (bt HB3.out (Nat.le_refl _) hb); clear hb; clear hy))
          have HA7 : Hid (∀ wz, Below v4.heap.size v4 wz → wz.cell? ⟨w.heap.size, 4, none⟩ = some (.slice Ab nb cbd) ∧ wz.cell? ⟨xb, 4, none⟩ = some (.slice Bb X.bads.length eb) ∧ RowE 1 encI wz (.slice Ab nb cbd) C.bads ∧ RowE 1 encI wz (.slice Bb X.bads.length eb) X.bads ∧ Tab wz g1 T ∧ Tab wz g2 T' ∧ Tab wz q1 N ∧ Tab wz q2 N ∧ Below w.heap.size w wz) := Lib.hid (fun wz hb => by
            obtain ⟨k1, k2, k3, k4, k5, k6, k7, k8, k9, k10⟩ := HA6.out wz (bt HB4.out (Nat.le_refl _) hb)
            have c4 := (show Blk wz w.heap.size 51 (V.cells C.max) from k1).cell 4
            have d4 := (show Blk wz xb 51 #[.int .i64 xm, .slice Bi X.inputs.length ei, .slice Bl X.latches.length el, .slice Bo X.outputs.length eo, .slice Bb X.bads.length eb, .slice Bc X.constraints.length ec, .slice Bj us.length ej, .slice Bf X.fairness.length ef, .slice Ba X.ands.length ea, .slice Bs X.symbols.length es, .slice Bt X.comments.length et] from k2).cell 4
            simp only [CV.cells, List.getElem?_toArray, List.getElem?_cons_zero, List.getElem?_cons_succ] at c4 d4
            rw [HVB.out] at c4
            have r3 := k3.b
            rw [HVB.out] at r3
            exact ⟨c4, d4, r3, k4.b, k9, k10, Blk.below HQ1D.out hb (Blk.lt HQ1D.out), Blk.below HQ2C.out hb (Blk.lt HQ2C.out), k8⟩)
          obtain ⟨c4, d4, _⟩ := HA7.out v4 (Below.refl _ _)
          have HX7 : Hid (Below v4.heap.size v4 v4) := Lib.hid (Below.refl _ _)
          have HXB : Hid (X.bads.length = nb) := Lib.hid (by rw [HBAD.out.1, List.length_map]; exact HNB.out)
          have h1 : ((X.bads.length : Int) != (nb : Int)) = false := by rw [HXB.out]; simp
          have h2 : ((nL : Int) != (nL : Int)) = false := by simp
          have h3 : (hc != hc) = false := by simp
          clear HK0 HK1 HK2 HK3 HQ1 HQ1B HQ1C HQ1D HQ2 HQ2B HQ2C HB1 HB2 HB3 HB4 HA6 HBW
          go_wp2
          clear c4 d4 h1 h2 h3
          go_loopg [163] nL (fun j iv wx => ∃ k : Nat, k ≤ nL ∧ j = nL - k ∧ iv = .int .i64 k ∧ Below v4.heap.size v4 wx)
          case atStart => exact ⟨0, Nat.zero_le _, rfl, rfl, HX7.out⟩
          case round =>
            obtain ⟨k, hk, hgk, rfl, hbw⟩ := hrel
            subst hgk
            have HBW := Lib.hid hbw
            clear hbw HX7
            by_cases hlt : k < nL
            · have HBD : Hid (Below v4.heap.size v4 wr.drew) := Lib.hid HBW.out.drew
              obtain ⟨_, _, _, _, _, _, x7, x8, _⟩ := HA7.out wr.drew HBD.out
              obtain ⟨b, hb⟩ : ∃ b, N[k]? = some b := ⟨_, List.getElem?_eq_getElem (by rw [HNLEN.out]; exact hlt)⟩
              have c1 := Tab.cell x7 hb
              have c2 := Tab.cell x8 hb
              have hbb : (b != b) = false := by simp
              have hk0 : (0 : Int) ≤ (k : Int) := by omega
              have hk1 : (k : Int) < (nL : Int) := by omega
              clear x7 x8 hb
              go_upto_region 27 with (fail)
              refine wp_region_T (by kernel_rfl) (fun w' => w'.cell? ⟨q1, k, none⟩ = some (.bool b) ∧ w'.cell? ⟨q2, k, none⟩ = some (.bool b)) 9 ?_
              have hHeld : wr.drew.cell? ⟨q1, k, none⟩ = some (.bool b) ∧ wr.drew.cell? ⟨q2, k, none⟩ = some (.bool b) := ⟨c1, c2⟩
              refine wpAnyT_take (i := 0) (oi := { dst := some 166, op := Op.move (Operand.tmp 16), type := 60, pos := "theorems.go:57", after := #[], guard := none }) (v := ?v0r27q3) rfl (by kernel_rfl) (fun _ _ _ h => h) (by rfl) hHeld ?h0r27q3 ?_
              case h0r27q3 => (intro w' hSw; (try dsimp only at hSw); go_simp; try with_reducible rfl)
              (try simp only [Act.put, List.setIfInBounds_toArray, List.set_cons_zero, List.set_cons_succ])
              refine wpAnyT_take (i := 1) (oi := { dst := some 167, op := Op.move (Operand.tmp 22), type := 3, pos := "theorems.go:57", after := #[], guard := none }) (v := ?v1r27q3) rfl (by kernel_rfl) (fun _ _ _ h => h) (by rfl) hHeld ?h1r27q3 ?_
              case h1r27q3 => (intro w' hSw; (try dsimp only at hSw); go_simp; try with_reducible rfl)
              (try simp only [Act.put, List.setIfInBounds_toArray, List.set_cons_zero, List.set_cons_succ])
              refine wpAnyT_take (i := 2) (oi := { dst := some 168, op := Op.indexAddr 60 (Operand.tmp 166) (Operand.tmp 167), type := 0, pos := "theorems.go:57", after := #[{ on := 0, ground := Ground.data }, { on := 1, ground := Ground.data }], guard := none }) (v := ?v2r27q3) rfl (by kernel_rfl) (fun _ _ _ h => h) (by rfl) hHeld ?h2r27q3 ?_
              case h2r27q3 => (intro w' hSw; (try dsimp only at hSw); go_simp; try with_reducible rfl)
              (try simp only [Act.put, List.setIfInBounds_toArray, List.set_cons_zero, List.set_cons_succ])
              refine wpAnyT_take (i := 3) (oi := { dst := some 169, op := Op.load 4 (Operand.tmp 168), type := 4, pos := "theorems.go:57", after := #[{ on := 2, ground := Ground.data }], guard := none }) (v := ?v3r27q3) rfl (by kernel_rfl) (fun _ _ _ h => h) (by rfl) hHeld ?h3r27q3 ?_
              case h3r27q3 => (intro w' hSw; (try dsimp only at hSw); go_simp; try with_reducible rfl)
              (try simp only [Act.put, List.setIfInBounds_toArray, List.set_cons_zero, List.set_cons_succ])
              refine wpAnyT_take (i := 4) (oi := { dst := some 170, op := Op.move (Operand.tmp 17), type := 60, pos := "theorems.go:57", after := #[], guard := none }) (v := ?v4r27q3) rfl (by kernel_rfl) (fun _ _ _ h => h) (by rfl) hHeld ?h4r27q3 ?_
              case h4r27q3 => (intro w' hSw; (try dsimp only at hSw); go_simp; try with_reducible rfl)
              (try simp only [Act.put, List.setIfInBounds_toArray, List.set_cons_zero, List.set_cons_succ])
              refine wpAnyT_take (i := 5) (oi := { dst := some 171, op := Op.move (Operand.tmp 22), type := 3, pos := "theorems.go:57", after := #[], guard := none }) (v := ?v5r27q3) rfl (by kernel_rfl) (fun _ _ _ h => h) (by rfl) hHeld ?h5r27q3 ?_
              case h5r27q3 => (intro w' hSw; (try dsimp only at hSw); go_simp; try with_reducible rfl)
              (try simp only [Act.put, List.setIfInBounds_toArray, List.set_cons_zero, List.set_cons_succ])
              refine wpAnyT_take (i := 6) (oi := { dst := some 172, op := Op.indexAddr 60 (Operand.tmp 170) (Operand.tmp 171), type := 0, pos := "theorems.go:57", after := #[{ on := 4, ground := Ground.data }, { on := 5, ground := Ground.data }], guard := none }) (v := ?v6r27q3) rfl (by kernel_rfl) (fun _ _ _ h => h) (by rfl) hHeld ?h6r27q3 ?_
              case h6r27q3 => (intro w' hSw; (try dsimp only at hSw); go_simp; try with_reducible rfl)
              (try simp only [Act.put, List.setIfInBounds_toArray, List.set_cons_zero, List.set_cons_succ])
              refine wpAnyT_take (i := 7) (oi := { dst := some 173, op := Op.load 4 (Operand.tmp 172), type := 4, pos := "theorems.go:57", after := #[{ on := 6, ground := Ground.data }], guard := none }) (v := ?v7r27q3) rfl (by kernel_rfl) (fun _ _ _ h => h) (by rfl) hHeld ?h7r27q3 ?_
              case h7r27q3 => (intro w' hSw; (try dsimp only at hSw); go_simp; try with_reducible rfl)
              (try simp only [Act.put, List.setIfInBounds_toArray, List.set_cons_zero, List.set_cons_succ])
              refine wpAnyT_take (i := 8) (oi := { dst := some 174, op := Op.binOp BinOp.neq 4 (Operand.tmp 169) (Operand.tmp 173) 4, type := 4, pos := "theorems.go:57", after := #[{ on := 3, ground := Ground.data }, { on := 7, ground := Ground.data }], guard := none }) (v := ?v8r27q3) rfl (by kernel_rfl) (fun _ _ _ h => h) (by rfl) hHeld ?h8r27q3 ?_
              case h8r27q3 => (intro w' hSw; (try dsimp only at hSw); go_simp; try with_reducible rfl)
              (try simp only [Act.put, List.setIfInBounds_toArray, List.set_cons_zero, List.set_cons_succ])
              clear hHeld
              refine wpAnyT_done (by kernel_rfl) ?_
              go_wp2
              go_roundg (nL - (k + 1))
              case measure => omega
              case rel => exact ⟨k + 1, by omega, rfl, by go_num, HBD.out⟩
            · have hk1 : ¬ (k : Int) < (nL : Int) := by omega
              obtain ⟨c4, d4, _⟩ := HA7.out wr HBW.out
              go_wp2
              clear c4 d4
              go_loopg [179] nb (fun j iv wx => ∃ k : Nat, k ≤ nb ∧ j = nb - k ∧ iv = .int .i64 k ∧ Below v4.heap.size v4 wx)
              case atStart => exact ⟨0, Nat.zero_le _, rfl, rfl, HBW.out⟩
              case round =>
                obtain ⟨k2, hk2, hgk2, rfl, hbw2⟩ := hrel
                subst hgk2
                have HBW2 := Lib.hid hbw2
                clear hbw2
                by_cases hlt2 : k2 < nb
                · have HBD : Hid (Below v4.heap.size v4 wr.drew) := Lib.hid HBW2.out.drew
                  obtain ⟨c4, d4, r3, r4, t1, t2, _⟩ := HA7.out wr.drew HBD.out
                  obtain ⟨l, hl⟩ : ∃ l, C.bads[k2]? = some l := ⟨_, List.getElem?_eq_getElem (by rw [HNB.out]; exact hlt2)⟩
                  have hxl : X.bads[k2]? = some (mvX M l) := by rw [HBAD.out.1, List.getElem?_map, hl]; rfl
                  obtain ⟨A1, z1, eA1, _, _, hrun1⟩ := r3
                  injection eA1 with g11 g12 g13
                  subst g11
                  clear g12 g13
                  obtain ⟨b1, off1, e, hb1, hcell1⟩ := hrun1 k2 l hl
                  subst e
                  have i0 := hcell1 0 _ rfl
                  obtain ⟨A2, z2, eA2, _, _, hrun2⟩ := r4
                  injection eA2 with g21 g22 g23
                  subst g21
                  clear g22 g23
                  obtain ⟨b2, off2, e, hb2, hcell2⟩ := hrun2 k2 _ hxl
                  subst e
                  have j0 := hcell2 0 _ rfl
                  simp only [Nat.mul_one, Nat.add_zero] at i0 j0
                  obtain ⟨p1, p2⟩ := HRT.out.b l (List.mem_of_getElem? hl)
                  have hrg := HMR.out l
                  have hlv := HLB.out l
                  obtain ⟨y, hy⟩ : ∃ y, mvX M l = y := ⟨_, rfl⟩
                  rw [hy] at hrg hlv j0
                  have hxr := HXR.out
                  have hnx := HNXE.out
                  have hnm := HNM.out
                  have HL1 := Lib.hid (litH_any wr.drew g1 nm T l t1 HTL.out.1 p1 (by omega) (by omega))
                  have HL2 := Lib.hid (litH_any wr.drew g2 nx T' y t2 HTL.out.2 hrg.1 (by omega) (by omega))
                  rw [hlv] at HL2
                  obtain ⟨b, hb⟩ : ∃ b, litV T l = b := ⟨_, rfl⟩
                  rw [hb] at HL1 HL2
                  have hbb : (b != b) = false := by simp
                  have hk0 : (0 : Int) ≤ (k2 : Int) := by omega
                  have hk1' : (k2 : Int) < (nb : Int) := by omega
                  have hk2' : (k2 : Int) < (X.bads.length : Int) := by rw [HXB.out]; omega
                  clear hl hxl hrun1 hrun2 hcell1 hcell2 hb1 hb2 p1 p2 hrg hlv hy hxr hnx hnm hb t1 t2
                  go_upto_region 33 with (fail)
                  refine wp_region_T (by kernel_rfl) (fun w' => w'.cell? ⟨w.heap.size, 4, none⟩ = some (.slice (some ⟨b1, off1, none⟩) nb cbd) ∧ w'.cell? ⟨xb, 4, none⟩ = some (.slice (some ⟨b2, off2, none⟩) X.bads.length eb) ∧ w'.cell? ⟨b1, off1 + k2, none⟩ = some (.int .i64 l) ∧ w'.cell? ⟨b2, off2 + k2, none⟩ = some (.int .i64 y)) 15 ?_
                  have hHeld : wr.drew.cell? ⟨w.heap.size, 4, none⟩ = some (.slice (some ⟨b1, off1, none⟩) nb cbd) ∧ wr.drew.cell? ⟨xb, 4, none⟩ = some (.slice (some ⟨b2, off2, none⟩) X.bads.length eb) ∧ wr.drew.cell? ⟨b1, off1 + k2, none⟩ = some (.int .i64 l) ∧ wr.drew.cell? ⟨b2, off2 + k2, none⟩ = some (.int .i64 y) := ⟨c4, d4, i0, j0⟩
                  refine wpAnyT_take (i := 0) (oi := { dst := some 182, op := Op.move (Operand.tmp 10), type := 60, pos := "theorems.go:62", after := #[], guard := none }) (v := ?v0r33q4) rfl (by kernel_rfl) (fun _ _ _ h => h) (by rfl) hHeld ?h0r33q4 ?_
                  case h0r33q4 => (intro w' hSw; (try dsimp only at hSw); go_simp; try with_reducible rfl)
                  (try simp only [Act.put, List.setIfInBounds_toArray, List.set_cons_zero, List.set_cons_succ])
                  refine wpAnyT_take (i := 1) (oi := { dst := some 183, op := Op.fieldAddr 51 (Operand.tmp 3) 4, type := 0, pos := "theorems.go:62", after := #[], guard := none }) (v := ?v1r33q4) rfl (by kernel_rfl) (fun _ _ _ h => h) (by rfl) hHeld ?h1r33q4 ?_
                  case h1r33q4 => (intro w' hSw; (try dsimp only at hSw); go_simp; try with_reducible rfl)
                  (try simp only [Act.put, List.setIfInBounds_toArray, List.set_cons_zero, List.set_cons_succ])
                  refine wpAnyT_take (i := 2) (oi := { dst := some 184, op := Op.load 45 (Operand.tmp 183), type := 45, pos := "theorems.go:62", after := #[{ on := 1, ground := Ground.data }], guard := none }) (v := ?v2r33q4) rfl (by kernel_rfl) (fun _ _ _ h => h) (by rfl) hHeld ?h2r33q4 ?_
                  case h2r33q4 => (intro w' hSw; (try dsimp only at hSw); go_simp; try with_reducible rfl)
                  (try simp only [Act.put, List.setIfInBounds_toArray, List.set_cons_zero, List.set_cons_succ])
                  refine wpAnyT_take (i := 3) (oi := { dst := some 185, op := Op.move (Operand.tmp 23), type := 3, pos := "theorems.go:62", after := #[], guard := none }) (v := ?v3r33q4) rfl (by kernel_rfl) (fun _ _ _ h => h) (by rfl) hHeld ?h3r33q4 ?_
                  case h3r33q4 => (intro w' hSw; (try dsimp only at hSw); go_simp; try with_reducible rfl)
                  (try simp only [Act.put, List.setIfInBounds_toArray, List.set_cons_zero, List.set_cons_succ])
                  refine wpAnyT_take (i := 4) (oi := { dst := some 186, op := Op.indexAddr 45 (Operand.tmp 184) (Operand.tmp 185), type := 0, pos := "theorems.go:62", after := #[{ on := 2, ground := Ground.data }, { on := 3, ground := Ground.data }], guard := none }) (v := ?v4r33q4) rfl (by kernel_rfl) (fun _ _ _ h => h) (by rfl) hHeld ?h4r33q4 ?_
                  case h4r33q4 => (intro w' hSw; (try dsimp only at hSw); go_simp; try with_reducible rfl)
                  (try simp only [Act.put, List.setIfInBounds_toArray, List.set_cons_zero, List.set_cons_succ])
                  refine wpAnyT_take (i := 5) (oi := { dst := some 187, op := Op.load 3 (Operand.tmp 186), type := 3, pos := "theorems.go:62", after := #[{ on := 4, ground := Ground.data }], guard := none }) (v := ?v5r33q4) rfl (by kernel_rfl) (fun _ _ _ h => h) (by rfl) hHeld ?h5r33q4 ?_
                  case h5r33q4 => (intro w' hSw; (try dsimp only at hSw); go_simp; try with_reducible rfl)
                  (try simp only [Act.put, List.setIfInBounds_toArray, List.set_cons_zero, List.set_cons_succ])
                  refine wpAnyT_take (i := 7) (oi := { dst := some 189, op := Op.move (Operand.tmp 12), type := 60, pos := "theorems.go:62", after := #[], guard := none }) (v := ?v7r33q5) rfl (by kernel_rfl) (fun _ _ _ h => h) (by rfl) hHeld ?h7r33q5 ?_
                  case h7r33q5 => (intro w' hSw; (try dsimp only at hSw); go_simp; try with_reducible rfl)
                  (try simp only [Act.put, List.setIfInBounds_toArray, List.set_cons_zero, List.set_cons_succ])
                  refine wpAnyT_take (i := 8) (oi := { dst := some 190, op := Op.fieldAddr 51 (Operand.tmp 7) 4, type := 0, pos := "theorems.go:62", after := #[], guard := none }) (v := ?v8r33q5) rfl (by kernel_rfl) (fun _ _ _ h => h) (by rfl) hHeld ?h8r33q5 ?_
                  case h8r33q5 => (intro w' hSw; (try dsimp only at hSw); go_simp; try with_reducible rfl)
                  (try simp only [Act.put, List.setIfInBounds_toArray, List.set_cons_zero, List.set_cons_succ])
                  refine wpAnyT_take (i := 9) (oi := { dst := some 191, op := Op.load 45 (Operand.tmp 190), type := 45, pos := "theorems.go:62", after := #[{ on := 8, ground := Ground.data }], guard := none }) (v := ?v9r33q5) rfl (by kernel_rfl) (fun _ _ _ h => h) (by rfl) hHeld ?h9r33q5 ?_
                  case h9r33q5 => (intro w' hSw; (try dsimp only at hSw); go_simp; try with_reducible rfl)
                  (try simp only [Act.put, List.setIfInBounds_toArray, List.set_cons_zero, List.set_cons_succ])
                  refine wpAnyT_take (i := 10) (oi := { dst := some 192, op := Op.move (Operand.tmp 23), type := 3, pos := "theorems.go:62", after := #[], guard := none }) (v := ?v10r33q5) rfl (by kernel_rfl) (fun _ _ _ h => h) (by rfl) hHeld ?h10r33q5 ?_
                  case h10r33q5 => (intro w' hSw; (try dsimp only at hSw); go_simp; try with_reducible rfl)
                  (try simp only [Act.put, List.setIfInBounds_toArray, List.set_cons_zero, List.set_cons_succ])
                  refine wpAnyT_take (i := 11) (oi := { dst := some 193, op := Op.indexAddr 45 (Operand.tmp 191) (Operand.tmp 192), type := 0, pos := "theorems.go:62", after := #[{ on := 9, ground := Ground.data }, { on := 10, ground := Ground.data }], guard := none }) (v := ?v11r33q5) rfl (by kernel_rfl) (fun _ _ _ h => h) (by rfl) hHeld ?h11r33q5 ?_
                  case h11r33q5 => (intro w' hSw; (try dsimp only at hSw); go_simp; try with_reducible rfl)
                  (try simp only [Act.put, List.setIfInBounds_toArray, List.set_cons_zero, List.set_cons_succ])
                  refine wpAnyT_take (i := 12) (oi := { dst := some 194, op := Op.load 3 (Operand.tmp 193), type := 3, pos := "theorems.go:62", after := #[{ on := 11, ground := Ground.data }], guard := none }) (v := ?v12r33q5) rfl (by kernel_rfl) (fun _ _ _ h => h) (by rfl) hHeld ?h12r33q5 ?_
                  case h12r33q5 => (intro w' hSw; (try dsimp only at hSw); go_simp; try with_reducible rfl)
                  (try simp only [Act.put, List.setIfInBounds_toArray, List.set_cons_zero, List.set_cons_succ])
                  refine wpAnyT_one (i := 6) (o := { dst := some 188, op := Op.call { callee := Callee.value (Operand.func 24), args := #[Operand.tmp 182, Operand.tmp 187], argTypes := #[60, 3] }, type := 4, pos := "theorems.go:62", after := #[{ on := 0, ground := Ground.data }, { on := 5, ground := Ground.data }], guard := none }) rfl (by kernel_rfl) (fun K hK => ?_)
                  go_simp
                  go_at_call 24
                  refine HL1.out.mono ?_
                  rintro e w7 ⟨rfl, hw7⟩
                  rw [hw7]
                  clear hw7 w7
                  refine hK.out _ _ (fun _ => hHeld) ?_
                  clear hK K
                  (try simp only [Act.put, List.setIfInBounds_toArray, List.set_cons_zero, List.set_cons_succ])
                  refine wpAnyT_one (i := 13) (o := { dst := some 195, op := Op.call { callee := Callee.value (Operand.func 24), args := #[Operand.tmp 189, Operand.tmp 194], argTypes := #[60, 3] }, type := 4, pos := "theorems.go:62", after := #[{ on := 7, ground := Ground.data }, { on := 12, ground := Ground.data }, { on := 6, ground := Ground.chain }], guard := none }) rfl (by kernel_rfl) (fun K hK => ?_)
                  go_simp
                  go_at_call 24
                  refine HL2.out.mono ?_
                  rintro e w7 ⟨rfl, hw7⟩
                  rw [hw7]
                  clear hw7 w7
                  refine hK.out _ _ (fun _ => hHeld) ?_
                  clear hK K
                  (try simp only [Act.put, List.setIfInBounds_toArray, List.set_cons_zero, List.set_cons_succ])
                  refine wpAnyT_take (i := 14) (oi := { dst := some 196, op := Op.binOp BinOp.neq 4 (Operand.tmp 188) (Operand.tmp 195) 4, type := 4, pos := "theorems.go:62", after := #[{ on := 6, ground := Ground.data }, { on := 13, ground := Ground.data }], guard := none }) (v := ?v14r33q6) rfl (by kernel_rfl) (fun _ _ _ h => h) (by rfl) hHeld ?h14r33q6 ?_
                  case h14r33q6 => (intro w' hSw; (try dsimp only at hSw); go_simp; try with_reducible rfl)
                  (try simp only [Act.put, List.setIfInBounds_toArray, List.set_cons_zero, List.set_cons_succ])
                  clear hHeld
                  refine wpAnyT_done (by kernel_rfl) ?_
                  go_wp2
                  go_roundg (nb - (k2 + 1))
                  case measure => omega
                  case rel => exact ⟨k2 + 1, by omega, rfl, by go_num, HBD.out⟩
                · have hk1' : ¬ (k2 : Int) < (nb : Int) := by omega
                  go_wp2
                  go_ret
                  exact ⟨rfl, (HA7.out _ HBW2.out).2.2.2.2.2.2.2.2⟩
    · obtain ⟨fe, hfe2⟩ : ∃ k, fitE C st row = k := ⟨_, rfl⟩
      rw [hfe2] at hfe HVC HVX
      have hfq : (fe != 0) = true := by simpa using hfe
      have hfs : (fe != fe) = false := by simp
      have HFE := Lib.hid hfe
      have hC0 : w.heap.size < W4.heap.size := by
        have : Blk W4 w.heap.size 51 (V.cells C.max) := HC4.out.1
        exact this.lt
      clear hfe hfe2
      go_upto_region 7 with (first
        | (refine wpList_load_row rfl 51 (.tmp 3) rfl w.heap.size rfl 51 (V.cells C.max) (0, 0) _ HC4.out.1 Try.underlying51 rfl (by kernel_rfl) ?_)
        | (go_at_call 23; refine (HVC.out W4 HC4.out.2.2.1 HC4.out.2.2.2.2.1 HC4.out.2.2.2.2.2.1).mono ?_; rintro e w5 ⟨hb5, v5, rfl, hno5, _⟩; obtain rfl := hno5 HFE.out; have HB5 := Lib.hid hb5; clear hb5 hno5))
      have HC5 := Lib.hid (HA.out w5 HB5.out)
      go_upto_region 8 with (first
        | (refine wpList_load_row rfl 51 (.tmp 7) rfl xb rfl 51 #[.int .i64 xm, .slice Bi X.inputs.length ei, .slice Bl X.latches.length el, .slice Bo X.outputs.length eo, .slice Bb X.bads.length eb, .slice Bc X.constraints.length ec, .slice Bj us.length ej, .slice Bf X.fairness.length ef, .slice Ba X.ands.length ea, .slice Bs X.symbols.length es, .slice Bt X.comments.length et] (0, 0) _ HC5.out.2.1 Try.underlying51 rfl (by kernel_rfl) ?_)
        | (go_at_call 23; refine (HVX.out w5 _ HC5.out.2.2.2.1 HC5.out.2.2.2.2.1 HC5.out.2.2.2.2.2.1).mono ?_; rintro e w6 ⟨hb6, v6, rfl, hno6, _⟩; obtain rfl := hno6 HFE.out; have HB6 := Lib.hid (bt HB5.out (Nat.le_refl _) hb6); clear hb6 hno6))
      have c0 : w6.cell? ⟨w.heap.size, 0, none⟩ = some (.int .i64 C.max) := (show Blk w6 w.heap.size 51 (V.cells C.max) from (HA.out w6 HB6.out).1).cell 0
      have hmm : IntKind.i64.wrap (C.max + 1) = C.max + 1 := by simp [IntKind.wrap, IntKind.bits, IntKind.signed]; have := HRT.out.m0; have := HRT.out.m1; omega
      have hnq : (nm : Int) = C.max + 1 := by rw [← HNM.out]; have := HRT.out.m0; omega
      have hlq : ((nm : Int) != C.max + 1) = false := by simp [hnq]
      clear hnq
      go_wp2
      go_ret
      exact ⟨rfl, (HA.out w6 HB6.out).2.2.2.2.2.2.2⟩
  · have HNO := Lib.hid (fun (wx : World) (hx : C.In wx V) => Build_no wx V C hx ok hz)
    obtain ⟨r, hrr⟩ : ∃ r, (checkR C).2 = r := ⟨_, rfl⟩
    rw [hrr] at hz HNO
    have hq : (r != 0) = true := by simpa using hz
    clear h ok rm hO hb0 hbx0 hW1 hs hr hrr
    go_enter Try.func5, Try.ntmps5
    go_upto_region 1 with (fail)
    rw [HW1.out]
    go_upto_region 3 with (go_at_call 10; refine (HWK.out _).mono ?_; rintro e w2 ⟨rfl, hb2⟩; have HB2 := Lib.hid hb2; clear hb2)
    have HC2 := Lib.hid (HALL.out w2 HB2.out)
    go_upto_region 4 with (first
      | (refine wpList_load_row rfl 51 (.tmp 3) rfl w.heap.size rfl 51 (V.cells C.max) (0, 0) _ HC2.out.1 Try.underlying51 rfl (by kernel_rfl) ?_)
      | (go_at_call 16; refine (HNO.out w2 HC2.out.2.1).mono ?_; rintro e w3 ⟨hb3, rfl⟩; have HB3 := Lib.hid (bt HC2.out.2.2.2.2 (Nat.le_refl _) hb3); clear hb3))
    go_wp2
    go_ret
    exact ⟨rfl, HB3.out.alloc HB3.out.size _⟩
end Go.Proofs.Ytbeaicmjohlboab

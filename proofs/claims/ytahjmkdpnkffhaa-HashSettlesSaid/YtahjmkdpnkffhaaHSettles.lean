/- Hash: HashSettles: the walk of the statement. -/
import Derived.Test.YtahjmkdpnkffhaaHshX
import Derived.Test.YtahjmkdpnkffhaaHshD
import Derived.Test.YtahjmkdpnkffhaaArgR
import Derived.Test.YtahjmkdpnkffhaaSameP
import Derived.Test.YtahjmkdpnkffhaaBin
namespace Go.Proofs.Ytahjmkdpnkffhaa
open Go.RowKit Go.Maps

theorem blt_again {C : Circ} {O : List Int} (hz : (checkR C).2 = 0) (hO : IsOrd C O) : bldX (bldX C O) (ordX C O) = bldX C O := by
  have hI := tellI_of (fine_of hz) hO
  exact (bld_again (bld_seq hz hO) hI.ok (hI.i.trans (by simp [bldX, bldC])) (hI.l.trans (by simp [bldX, bldC])) rfl).1
set_option maxHeartbeats 20000000 in
set_option maxRecDepth 100000 in
theorem hashSettles_walk (w : World) (V : CV) (C : Circ) (h : C.In w V) (ok : C.Ok) (rm : C.Room ∧ C.Reach) :
    Calls Try.prog 6 #[V.val C.max] w fun e w' => e = .returned (.bool true) ∧ Below w.heap.size w w' := by
  obtain ⟨rm, _⟩ := rm
  obtain ⟨O, hO⟩ := ord_ex h ok
  have hb0 := (Below.refl w.heap.size w).alloc (Nat.le_refl _) (.cells (V.cells C.max) 51)
  have hbx0 := Blk.new w 51 (V.cells C.max)
  obtain ⟨W1, hW1⟩ : ∃ W1, w.alloc (.cells (V.cells C.max) 51) = W1 := ⟨_, rfl⟩
  rw [hW1] at hb0 hbx0
  have HW1 := Lib.hid hW1
  have HWK := Lib.hid (fun wz => worksH_any wz)
  have HALL : Hid (∀ wz, Below W1.heap.size W1 wz → wz.heap[w.heap.size]? = some (.cells (V.cells C.max) 51 (0, 0)) ∧ C.In wz V ∧ Below w.heap.size w wz) := Lib.hid (fun wz hb => by
    have h2 := bt hb0 (Nat.le_refl _) hb
    exact ⟨hbx0.below hb hbx0.lt, h.below h2, h2⟩)
  by_cases hz : (checkR C).2 = 0
  · have hO1 := hO hz
    have HXOK := Lib.hid (blt_ok hz hO1 ok)
    have hXR := blt_room hz hO1 rm
    have HSEQ := Lib.hid (bld_seq hz hO1)
    have HRT := Lib.hid (right_of hz)
    have HBLD := Lib.hid (fun (wx : World) (hx : C.In wx V) => Build_ok wx V C O hx ok rm hz hO1)
    have HBLX := Lib.hid (fun (wx : World) (U : CV) (hx : (bldX C O).In wx U) => Build_ok wx U (bldX C O) (ordX C O) hx HXOK.out hXR HSEQ.out.check HSEQ.out.ord)
    rw [blt_again hz hO1] at HBLX
    have hI := tellI_of (fine_of hz) hO1
    have HLE : Hid ((bldX C O).ands.length ≤ C.ands.length) := Lib.hid (by
      have h1 := hI.glen
      have h2 := hO1.l
      show (bldB C O).tris.length ≤ _
      rw [tris_len]
      simp only at h1
      omega)
    have HTRI : Hid (∀ (k : Nat) (z : Tri), (bldX C O).ands[k]? = some z → 2 ≤ z.2.2 ∧ 0 ≤ z.2.1 ∧ ¬ z.2.1 / 2 = z.2.2 / 2 ∧ z.2.1 ≤ 40000 ∧ z.2.2 ≤ 40000) := Lib.hid (fun k z hk => by
      obtain ⟨p, hp, rfl⟩ := tris_at.1 (show (bldB C O).tris[k]? = some z from hk)
      have hbok : (bldB C O).Ok := hI.ok
      obtain ⟨f1, f2, f3, f4⟩ := hbok.fit k p hp
      have hl := hbok.last
      have hkl : k < (bldB C O).g.length := (List.getElem?_eq_some_iff.1 hp).1
      unfold Bd.out at f4
      unfold Bd.last at hl
      generalize (bldB C O).g.length = gl at hl hkl
      generalize (bldB C O).i = gi at hl f4
      generalize (bldB C O).l = g0 at hl f4
      exact ⟨f1, by show 0 ≤ p.1; omega, f3, by show p.1 ≤ 40000; omega, by show p.2 ≤ 40000; omega⟩)
    have HND : Hid (∀ (j k : Nat) (y z : Tri), (bldX C O).ands[j]? = some y → (bldX C O).ands[k]? = some z → j < k → ¬ (y.2.1 = z.2.1 ∧ y.2.2 = z.2.2)) := Lib.hid (fun j k y z hj hk hlt he => by
      obtain ⟨p, hp, rfl⟩ := tris_at.1 (show (bldB C O).tris[j]? = some y from hj)
      obtain ⟨q, hq, rfl⟩ := tris_at.1 (show (bldB C O).tris[k]? = some z from hk)
      have hpq : p = q := Prod.ext he.1 he.2
      subst hpq
      obtain ⟨l1, e1⟩ := List.getElem?_eq_some_iff.1 hp
      obtain ⟨l2, e2⟩ := List.getElem?_eq_some_iff.1 hq
      exact (List.pairwise_iff_getElem.1 hI.ok.nd) j k l1 l2 hlt (e1.trans e2.symm))
    obtain ⟨X, hX⟩ : ∃ X, bldX C O = X := ⟨_, rfl⟩
    rw [hX] at HXOK HSEQ HBLD HBLX HLE HTRI HND
    have HBIN := Lib.hid (fun (wx : World) (U : CV) (hx : X.In wx U) => IsBinary_ok wx U X hx HXOK.out HSEQ.out.check)
    rw [HSEQ.out.bin] at HBIN
    have HSAME := Lib.hid (fun (wx : World) (U U2 : CV) (hx : X.In wx U) (hy : X.In wx U2) => (show Calls Try.prog 33 #[U.val X.max, U2.val X.max] wx fun e w' => e = .returned (.bool true) ∧ Below wx.heap.size wx w' from (Same_any wx U U2 X X hx hy).mono (by
      rintro e w' ⟨r, he, hr, hb⟩
      obtain rfl := hr.2 rfl
      exact ⟨he, hb⟩)))
    obtain ⟨xm, hxm⟩ : ∃ k, X.max = k := ⟨_, rfl⟩
    rw [hxm] at HBLD HBLX HBIN HSAME
    have HXM := Lib.hid hxm
    obtain ⟨Aa, ca, hva, _⟩ := h.a
    have HVA := Lib.hid hva
    clear h ok rm hO hz hO1 hb0 hbx0 hW1 hX hxm hXR hI hva
    go_enter Try.func6, Try.ntmps6
    go_upto_region 1 with (fail)
    rw [HW1.out]
    go_upto_region 3 with (go_at_call 15; refine (HWK.out _).mono ?_; rintro e w2 ⟨rfl, hb2⟩; have HB2 := Lib.hid hb2; clear hb2)
    have HC2 := Lib.hid (HALL.out w2 HB2.out)
    go_upto_region 4 with (first
      | (refine wpList_load_row rfl 51 (.tmp 1) rfl w.heap.size rfl 51 (V.cells C.max) (0, 0) _ HC2.out.1 Try.underlying51 rfl (by kernel_rfl) ?_)
      | (go_at_call 21; refine (HBLD.out w2 HC2.out.2.1).mono ?_; rintro e w3 ⟨hb3, V', us, g, B', rfl, _, _, _, hcop, _⟩; obtain ⟨Yi, Yl, Yo, Yb, Yc, Yj, Yf, Ya, Ys, Yt⟩ := V'; obtain ⟨Bi, ei, hYi⟩ := own_slice (hcop.fam.own (Yi, X.inputs) (by simp)); obtain ⟨Bl, el, hYl⟩ := own_slice_k hcop.l; obtain ⟨Bo, eo, hYo⟩ := own_slice (hcop.fam.own (Yo, X.outputs) (by simp)); obtain ⟨Bb, eb, hYb⟩ := own_slice (hcop.fam.own (Yb, X.bads) (by simp)); obtain ⟨Bc, ec, hYc⟩ := own_slice (hcop.fam.own (Yc, X.constraints) (by simp)); obtain ⟨Bj, ej, hYj⟩ := own_slice_k hcop.j; obtain ⟨Bf, ef, hYf⟩ := own_slice (hcop.fam.own (Yf, X.fairness) (by simp)); obtain ⟨Ba, ea, hYa⟩ := own_slice_k hcop.a; obtain ⟨Bs, es, hYs⟩ := own_slice_k hcop.s; obtain ⟨Bt, et, hYt⟩ := own_slice_k hcop.t; simp only at hYi hYl hYo hYb hYc hYj hYf hYa hYs hYt; subst hYi hYl hYo hYb hYc hYj hYf hYa hYs hYt; have HB3 := Lib.hid (bt HB2.out (Nat.le_refl _) hb3); have HI3 := Lib.hid hcop.in_; clear hb3 hcop))
    have hb4 : Below w3.heap.size w3 (w3.alloc (.cells #[.int .i64 xm, .slice Bi X.inputs.length ei, .slice Bl X.latches.length el, .slice Bo X.outputs.length eo, .slice Bb X.bads.length eb, .slice Bc X.constraints.length ec, .slice Bj us.length ej, .slice Bf X.fairness.length ef, .slice Ba X.ands.length ea, .slice Bs X.symbols.length es, .slice Bt X.comments.length et] 51)) := (Below.refl _ _).alloc (Nat.le_refl _) _
    have hx4 := Blk.new w3 51 #[.int .i64 xm, .slice Bi X.inputs.length ei, .slice Bl X.latches.length el, .slice Bo X.outputs.length eo, .slice Bb X.bads.length eb, .slice Bc X.constraints.length ec, .slice Bj us.length ej, .slice Bf X.fairness.length ef, .slice Ba X.ands.length ea, .slice Bs X.symbols.length es, .slice Bt X.comments.length et]
    obtain ⟨W4, hW4⟩ : ∃ W4, w3.alloc (.cells #[.int .i64 xm, .slice Bi X.inputs.length ei, .slice Bl X.latches.length el, .slice Bo X.outputs.length eo, .slice Bb X.bads.length eb, .slice Bc X.constraints.length ec, .slice Bj us.length ej, .slice Bf X.fairness.length ef, .slice Ba X.ands.length ea, .slice Bs X.symbols.length es, .slice Bt X.comments.length et] 51) = W4 := ⟨_, rfl⟩
    rw [hW4] at hb4 hx4
    rw [hW4]
    obtain ⟨xb, hxb⟩ : ∃ xb, w3.heap.size = xb := ⟨_, rfl⟩
    have HA : Hid (∀ wz, Below W4.heap.size W4 wz → wz.heap[w.heap.size]? = some (.cells (V.cells C.max) 51 (0, 0)) ∧ wz.heap[xb]? = some (.cells #[.int .i64 xm, .slice Bi X.inputs.length ei, .slice Bl X.latches.length el, .slice Bo X.outputs.length eo, .slice Bb X.bads.length eb, .slice Bc X.constraints.length ec, .slice Bj us.length ej, .slice Bf X.fairness.length ef, .slice Ba X.ands.length ea, .slice Bs X.symbols.length es, .slice Bt X.comments.length et] 51 (0, 0)) ∧ X.In wz ⟨.slice Bi X.inputs.length ei, .slice Bl X.latches.length el, .slice Bo X.outputs.length eo, .slice Bb X.bads.length eb, .slice Bc X.constraints.length ec, .slice Bj us.length ej, .slice Bf X.fairness.length ef, .slice Ba X.ands.length ea, .slice Bs X.symbols.length es, .slice Bt X.comments.length et⟩ ∧ Below w.heap.size w wz) := Lib.hid (fun wz hb => by
      have h3 : Below w3.heap.size w3 wz := bt hb4 (Nat.le_refl _) hb
      obtain ⟨k1, k2, k5⟩ := HALL.out wz (bt HB3.out (Nat.le_refl _) h3)
      rw [hxb] at hx4
      exact ⟨k1, hx4.below hb hx4.lt, HI3.out.below h3, k5⟩)
    rw [hxb]
    have HC4 := Lib.hid (HA.out W4 (Below.refl _ _))
    clear hb4 hx4 hW4 hxb HALL HB3 HI3 HC2 HB2
    go_upto_region 7 with (first
      | (refine wpList_load_row rfl 51 (.tmp 3) rfl xb rfl 51 #[.int .i64 xm, .slice Bi X.inputs.length ei, .slice Bl X.latches.length el, .slice Bo X.outputs.length eo, .slice Bb X.bads.length eb, .slice Bc X.constraints.length ec, .slice Bj us.length ej, .slice Bf X.fairness.length ef, .slice Ba X.ands.length ea, .slice Bs X.symbols.length es, .slice Bt X.comments.length et] (0, 0) _ HC4.out.2.1 Try.underlying51 rfl (by kernel_rfl) ?_)
      | (go_at_call 21; refine (HBLX.out W4 _ HC4.out.2.2.1).mono ?_; rintro e w5 ⟨hb5, V', uy, g, B', rfl, _, _, _, hcop, _⟩; obtain ⟨Yi, Yl, Yo, Yb, Yc, Yj, Yf, Ya, Ys, Yt⟩ := V'; obtain ⟨Di, ki, hYi⟩ := own_slice (hcop.fam.own (Yi, X.inputs) (by simp)); obtain ⟨Dl, kl, hYl⟩ := own_slice_k hcop.l; obtain ⟨Do, ko, hYo⟩ := own_slice (hcop.fam.own (Yo, X.outputs) (by simp)); obtain ⟨Db, kb, hYb⟩ := own_slice (hcop.fam.own (Yb, X.bads) (by simp)); obtain ⟨Dc, kc, hYc⟩ := own_slice (hcop.fam.own (Yc, X.constraints) (by simp)); obtain ⟨Dj, kj, hYj⟩ := own_slice_k hcop.j; obtain ⟨Df, kf, hYf⟩ := own_slice (hcop.fam.own (Yf, X.fairness) (by simp)); obtain ⟨Da, ka, hYa⟩ := own_slice_k hcop.a; obtain ⟨Ds, ks, hYs⟩ := own_slice_k hcop.s; obtain ⟨Dt, kt, hYt⟩ := own_slice_k hcop.t; simp only at hYi hYl hYo hYb hYc hYj hYf hYa hYs hYt; subst hYi hYl hYo hYb hYc hYj hYf hYa hYs hYt; have HB5 := Lib.hid hb5; have HI5 := Lib.hid hcop.in_; clear hb5 hcop))
    have hb6 : Below w5.heap.size w5 (w5.alloc (.cells #[.int .i64 xm, .slice Di X.inputs.length ki, .slice Dl X.latches.length kl, .slice Do X.outputs.length ko, .slice Db X.bads.length kb, .slice Dc X.constraints.length kc, .slice Dj uy.length kj, .slice Df X.fairness.length kf, .slice Da X.ands.length ka, .slice Ds X.symbols.length ks, .slice Dt X.comments.length kt] 51)) := (Below.refl _ _).alloc (Nat.le_refl _) _
    have hx6 := Blk.new w5 51 #[.int .i64 xm, .slice Di X.inputs.length ki, .slice Dl X.latches.length kl, .slice Do X.outputs.length ko, .slice Db X.bads.length kb, .slice Dc X.constraints.length kc, .slice Dj uy.length kj, .slice Df X.fairness.length kf, .slice Da X.ands.length ka, .slice Ds X.symbols.length ks, .slice Dt X.comments.length kt]
    obtain ⟨W6, hW6⟩ : ∃ W6, w5.alloc (.cells #[.int .i64 xm, .slice Di X.inputs.length ki, .slice Dl X.latches.length kl, .slice Do X.outputs.length ko, .slice Db X.bads.length kb, .slice Dc X.constraints.length kc, .slice Dj uy.length kj, .slice Df X.fairness.length kf, .slice Da X.ands.length ka, .slice Ds X.symbols.length ks, .slice Dt X.comments.length kt] 51) = W6 := ⟨_, rfl⟩
    rw [hW6] at hb6 hx6
    rw [hW6]
    obtain ⟨yb, hyb⟩ : ∃ yb, w5.heap.size = yb := ⟨_, rfl⟩
    have HA6 : Hid (∀ wz, Below W6.heap.size W6 wz → wz.heap[w.heap.size]? = some (.cells (V.cells C.max) 51 (0, 0)) ∧ wz.heap[xb]? = some (.cells #[.int .i64 xm, .slice Bi X.inputs.length ei, .slice Bl X.latches.length el, .slice Bo X.outputs.length eo, .slice Bb X.bads.length eb, .slice Bc X.constraints.length ec, .slice Bj us.length ej, .slice Bf X.fairness.length ef, .slice Ba X.ands.length ea, .slice Bs X.symbols.length es, .slice Bt X.comments.length et] 51 (0, 0)) ∧ X.In wz ⟨.slice Bi X.inputs.length ei, .slice Bl X.latches.length el, .slice Bo X.outputs.length eo, .slice Bb X.bads.length eb, .slice Bc X.constraints.length ec, .slice Bj us.length ej, .slice Bf X.fairness.length ef, .slice Ba X.ands.length ea, .slice Bs X.symbols.length es, .slice Bt X.comments.length et⟩ ∧ wz.heap[yb]? = some (.cells #[.int .i64 xm, .slice Di X.inputs.length ki, .slice Dl X.latches.length kl, .slice Do X.outputs.length ko, .slice Db X.bads.length kb, .slice Dc X.constraints.length kc, .slice Dj uy.length kj, .slice Df X.fairness.length kf, .slice Da X.ands.length ka, .slice Ds X.symbols.length ks, .slice Dt X.comments.length kt] 51 (0, 0)) ∧ X.In wz ⟨.slice Di X.inputs.length ki, .slice Dl X.latches.length kl, .slice Do X.outputs.length ko, .slice Db X.bads.length kb, .slice Dc X.constraints.length kc, .slice Dj uy.length kj, .slice Df X.fairness.length kf, .slice Da X.ands.length ka, .slice Ds X.symbols.length ks, .slice Dt X.comments.length kt⟩ ∧ Below w.heap.size w wz) := Lib.hid (fun wz hb => by
      have h5 : Below w5.heap.size w5 wz := bt hb6 (Nat.le_refl _) hb
      obtain ⟨k1, k2, k3, k4⟩ := HA.out wz (bt HB5.out (Nat.le_refl _) h5)
      rw [hyb] at hx6
      exact ⟨k1, k2, k3, hx6.below hb hx6.lt, HI5.out.below h5, k4⟩)
    rw [hyb]
    have HC6 := Lib.hid (HA6.out W6 (Below.refl _ _))
    clear hb6 hx6 hW6 hyb HA HB5 HI5 HC4
    go_upto_region 8 with (first
      | (refine wpList_load_row rfl 51 (.tmp 3) rfl xb rfl 51 #[.int .i64 xm, .slice Bi X.inputs.length ei, .slice Bl X.latches.length el, .slice Bo X.outputs.length eo, .slice Bb X.bads.length eb, .slice Bc X.constraints.length ec, .slice Bj us.length ej, .slice Bf X.fairness.length ef, .slice Ba X.ands.length ea, .slice Bs X.symbols.length es, .slice Bt X.comments.length et] (0, 0) _ HC6.out.2.1 Try.underlying51 rfl (by kernel_rfl) ?_)
      | (go_at_call 32; refine (HBIN.out W6 _ HC6.out.2.2.1).mono ?_; rintro e w7 ⟨hb7, rfl⟩; have HB7 := Lib.hid hb7; clear hb7))
    have HC7 := Lib.hid (HA6.out w7 HB7.out)
    obtain ⟨c0, c1, c2, c3, c4, c5, c6, c7, c8, c9, c10⟩ := rbox_of (show Blk w7 xb 51 #[.int .i64 xm, .slice Bi X.inputs.length ei, .slice Bl X.latches.length el, .slice Bo X.outputs.length eo, .slice Bb X.bads.length eb, .slice Bc X.constraints.length ec, .slice Bj us.length ej, .slice Bf X.fairness.length ef, .slice Ba X.ands.length ea, .slice Bs X.symbols.length es, .slice Bt X.comments.length et] from HC7.out.2.1)
    obtain ⟨d0, d1, d2, d3, d4, d5, d6, d7, d8, d9, d10⟩ := rbox_of (show Blk w7 yb 51 #[.int .i64 xm, .slice Di X.inputs.length ki, .slice Dl X.latches.length kl, .slice Do X.outputs.length ko, .slice Db X.bads.length kb, .slice Dc X.constraints.length kc, .slice Dj uy.length kj, .slice Df X.fairness.length kf, .slice Da X.ands.length ka, .slice Ds X.symbols.length ks, .slice Dt X.comments.length kt] from HC7.out.2.2.2.1)
    have HC8 : Hid (∀ wz, Below W6.heap.size W6 wz → wz.cell? ⟨w.heap.size, 8, none⟩ = some (.slice Aa C.ands.length ca) ∧ wz.cell? ⟨xb, 8, none⟩ = some (.slice Ba X.ands.length ea) ∧ RowE 3 encT wz (.slice Ba X.ands.length ea) X.ands ∧ Below w.heap.size w wz) := Lib.hid (fun wz hb => by
      obtain ⟨k1, k2, k3, k4, k5, k6⟩ := HA6.out wz hb
      have e8 := (show Blk wz w.heap.size 51 (V.cells C.max) from k1).cell 8
      have f8 := (show Blk wz xb 51 #[.int .i64 xm, .slice Bi X.inputs.length ei, .slice Bl X.latches.length el, .slice Bo X.outputs.length eo, .slice Bb X.bads.length eb, .slice Bc X.constraints.length ec, .slice Bj us.length ej, .slice Bf X.fairness.length ef, .slice Ba X.ands.length ea, .slice Bs X.symbols.length es, .slice Bt X.comments.length et] from k2).cell 8
      simp only [CV.cells, List.getElem?_toArray, List.getElem?_cons_zero, List.getElem?_cons_succ] at e8 f8
      rw [HVA.out] at e8
      exact ⟨e8, f8, k3.a, k6⟩)
    have hle : ¬ (C.ands.length : Int) < (X.ands.length : Int) := by have := HLE.out; omega
    have hle2 : ¬ C.ands.length < X.ands.length := by have := HLE.out; omega
    obtain ⟨nX, hnX⟩ : ∃ k, X.ands.length = k := ⟨_, rfl⟩
    have HNX := Lib.hid hnX
    have hn16 : nX ≤ 16384 := by rw [← hnX]; exact (right_of HSEQ.out.check).na
    clear hnX
    go_upto_region 10 with (go_at_call 33; refine (HSAME.out w7 _ _ HC7.out.2.2.1 HC7.out.2.2.2.2.1).mono ?_; rintro e w8 ⟨rfl, hb8⟩; have HB8 := Lib.hid (bt HB7.out (Nat.le_refl _) hb8); clear hb8 c0 c1 c2 c3 c4 c5 c6 c7 c8 c9 c10 d0 d1 d2 d3 d4 d5 d6 d7 d8 d9 d10; obtain ⟨e8, f8, _⟩ := HC8.out w8 HB8.out)
    clear hle hle2
    go_wp2
    clear e8 f8
    go_loopg [67] X.ands.length (fun j iv wx => ∃ k : Nat, k ≤ X.ands.length ∧ j = X.ands.length - k ∧ iv = .int .i64 k ∧ Below W6.heap.size W6 wx)
    case atStart => exact ⟨0, Nat.zero_le _, rfl, rfl, HB8.out⟩
    case round =>
      obtain ⟨k, hk, hgk, rfl, hbw⟩ := hrel
      subst hgk
      have HBW := Lib.hid hbw
      clear hbw HB8
      have hnn : X.ands.length ≤ 16384 := by rw [HNX.out]; exact hn16
      by_cases hlt : k < X.ands.length
      · obtain ⟨z, hzz⟩ : ∃ z, X.ands[k]? = some z := ⟨_, List.getElem?_eq_getElem hlt⟩
        have HZZ := Lib.hid hzz
        obtain ⟨t1, t2, t3, t4, t5⟩ := HTRI.out k z hzz
        obtain ⟨_, f8, r, _⟩ := HC8.out wr HBW.out
        obtain ⟨A', c', eA', _, _, hrun⟩ := r
        injection eA' with g1 g2 g3
        subst g1
        clear g2 g3
        obtain ⟨lb, off, e, hlb, hcell⟩ := hrun k z hzz
        subst e
        obtain ⟨z0, z1, z2⟩ := z
        have i0 := hcell 0 _ rfl
        have i1 := hcell 1 _ rfl
        have i2 := hcell 2 _ rfl
        simp only [Nat.add_zero, ← Nat.add_assoc] at i0 i1 i2
        simp only at t1 t2 t3 t4 t5
        have l0 : ¬ z2 < 2 := by omega
        have q1 := tdiv_nn (a := z1) (b := 2) t2
        have q2 := tdiv_nn (a := z2) (b := 2) (by omega)
        have q3 : ¬ z2 / 2 = z1 / 2 := fun e => t3 e.symm
        have w1 : IntKind.i64.wrap (z1 / 2) = z1 / 2 := by simp [IntKind.wrap, IntKind.bits, IntKind.signed]; omega
        have w2 : IntKind.i64.wrap (z2 / 2) = z2 / 2 := by simp [IntKind.wrap, IntKind.bits, IntKind.signed]; omega
        have w3 : (z1 / 2 == z2 / 2) = false := by simpa using t3
        have hk0 : (0 : Int) ≤ (k : Int) := by omega
        have hk1 : (k : Int) < (X.ands.length : Int) := by omega
        have HBD : Hid (Below W6.heap.size W6 (wr.alloc (.cells #[.int .i64 z0, .int .i64 z1, .int .i64 z2] 43))) := Lib.hid (HBW.out.alloc HBW.out.size _)
        have HGB : Hid (Blk (wr.alloc (.cells #[.int .i64 z0, .int .i64 z1, .int .i64 z2] 43)) wr.heap.size 43 #[.int .i64 z0, .int .i64 z1, .int .i64 z2]) := Lib.hid (Blk.new wr _ _)
        clear hzz hrun hcell hlb f8
        go_wp2
        obtain ⟨lb2, hlb2⟩ : ∃ z, wr.heap.size = z := ⟨_, rfl⟩
        rw [hlb2] at HGB
        rw [hlb2]
        go_loopg [13] k (fun j jv wx => ∃ q : Nat, q ≤ k ∧ j = k - q ∧ jv = .int .i64 q ∧ Below W6.heap.size W6 wx ∧ Blk wx lb2 43 #[.int .i64 z0, .int .i64 z1, .int .i64 z2])
        case atStart => exact ⟨0, Nat.zero_le _, rfl, rfl, HBD.out, HGB.out⟩
        case round =>
          obtain ⟨q, hq, hgq, rfl, hbq, hgb⟩ := hrel
          subst hgq
          have HBQ := Lib.hid hbq
          have HGQ := Lib.hid hgb
          clear hbq hgb HGB i0 i1 i2
          obtain ⟨_, f8, r, _⟩ := HC8.out _ HBQ.out
          have hq0 : (0 : Int) ≤ (q : Int) := by omega
          by_cases hlq : q < k ∧ X.ands.length < 300
          · have hq1 : (q : Int) < (k : Int) := by omega
            have hq2 : (X.ands.length : Int) < 300 := by omega
            have hq3 : (q : Int) < (X.ands.length : Int) := by omega
            obtain ⟨y, hyy⟩ : ∃ y, X.ands[q]? = some y := ⟨_, List.getElem?_eq_getElem (by omega)⟩
            have hnd := HND.out q k y _ hyy HZZ.out hlq.1
            obtain ⟨A2, c2', eA2, _, _, hrun2⟩ := r
            injection eA2 with g1 g2 g3
            subst g1
            clear g2 g3
            obtain ⟨lb', off', e, _, hcell2⟩ := hrun2 q y hyy
            injection e with e
            injection e with e1 e2
            subst e1 e2
            obtain ⟨y0, y1, y2⟩ := y
            have j1 := hcell2 1 _ rfl
            have j2 := hcell2 2 _ rfl
            simp only [← Nat.add_assoc] at j1 j2
            simp only at hnd
            have a1 := HGQ.out.cell 1
            have a2 := HGQ.out.cell 2
            simp only [List.getElem?_toArray, List.getElem?_cons_zero, List.getElem?_cons_succ] at a1 a2
            have HBR : Hid (Below W6.heap.size W6 wr.drew) := Lib.hid HBQ.out.drew
            have HGR : Hid (Blk wr.drew lb2 43 #[.int .i64 z0, .int .i64 z1, .int .i64 z2]) := Lib.hid HGQ.out.drew
            clear hyy hrun2 hcell2
            by_cases hy : y1 = z1
            · have hy2 : ¬ y2 = z2 := fun e => hnd ⟨hy, e⟩
              have b1 : (y1 == z1) = true := by simpa using hy
              have b2 : (y2 == z2) = false := by simpa using hy2
              go_upto_region 18 with (fail)
              go_region
              go_wp2
              go_roundg (k - (q + 1))
              case measure => omega
              case rel => exact ⟨q + 1, by omega, rfl, by go_num, HBR.out, HGR.out⟩
            · have b1 : (y1 == z1) = false := by simpa using hy
              go_upto_region 18 with (fail)
              go_region
              go_wp2
              go_roundg (k - (q + 1))
              case measure => omega
              case rel => exact ⟨q + 1, by omega, rfl, by go_num, HBR.out, HGR.out⟩
          · clear HGQ r
            by_cases hqk : q < k
            · have hq1 : (q : Int) < (k : Int) := by omega
              have hq2 : ¬ (X.ands.length : Int) < 300 := by omega
              go_wp2
              go_roundg (X.ands.length - (k + 1))
              case measure => omega
              case rel => exact ⟨k + 1, by omega, rfl, by go_num, HBQ.out⟩
            · have hq1 : ¬ (q : Int) < (k : Int) := by omega
              go_wp2
              go_roundg (X.ands.length - (k + 1))
              case measure => omega
              case rel => exact ⟨k + 1, by omega, rfl, by go_num, HBQ.out⟩
      · have hk1 : ¬ (k : Int) < (X.ands.length : Int) := by omega
        go_wp2
        go_ret
        exact ⟨rfl, (HC8.out _ HBW.out).2.2.2⟩
  · have HNO := Lib.hid (fun (wx : World) (hx : C.In wx V) => Build_no wx V C hx ok hz)
    obtain ⟨r, hrr⟩ : ∃ r, (checkR C).2 = r := ⟨_, rfl⟩
    rw [hrr] at hz HNO
    have hq : (r != 0) = true := by simpa using hz
    clear h ok rm hO hb0 hbx0 hW1 hrr
    go_enter Try.func6, Try.ntmps6
    go_upto_region 1 with (fail)
    rw [HW1.out]
    go_upto_region 3 with (go_at_call 15; refine (HWK.out _).mono ?_; rintro e w2 ⟨rfl, hb2⟩; have HB2 := Lib.hid hb2; clear hb2)
    have HC2 := Lib.hid (HALL.out w2 HB2.out)
    go_upto_region 4 with (first
      | (refine wpList_load_row rfl 51 (.tmp 1) rfl w.heap.size rfl 51 (V.cells C.max) (0, 0) _ HC2.out.1 Try.underlying51 rfl (by kernel_rfl) ?_)
      | (go_at_call 21; refine (HNO.out w2 HC2.out.2.1).mono ?_; rintro e w3 ⟨hb3, rfl⟩; have HB3 := Lib.hid (bt HC2.out.2.2 (Nat.le_refl _) hb3); clear hb3))
    go_wp2
    go_ret
    exact ⟨rfl, HB3.out.alloc HB3.out.size _⟩
end Go.Proofs.Ytahjmkdpnkffhaa

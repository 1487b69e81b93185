/- The walk of ShapeSettles: for whatever circuit the statement's Go function answers true, and nothing that was there has turned. -/
import Derived.Test.YtfcjdfjobneeeaaSetQ
import Derived.Test.YtfcjdfjobneeeaaSameP
namespace Go.Proofs.Ytfcjdfjobneeeaa
open Go.RowKit

set_option maxHeartbeats 2000000 in
set_option maxRecDepth 100000 in
theorem settles_no (w : World) (V : CV) (C : Circ) (h : C.In w V) (ok : C.Ok) (h0 : (checkR C).2 ≠ 0) :
    Calls Try.prog 7 #[V.val C.max] w fun e w' => e = .returned (.bool true) ∧ Below w.heap.size w w' := by
  have HB := Lib.hid ((Below.refl w.heap.size w).alloc (Nat.le_refl _) (.cells (V.cells C.max) 29))
  have HIN : Hid (∀ wz, Below (w.alloc (.cells (V.cells C.max) 29)).heap.size (w.alloc (.cells (V.cells C.max) 29)) wz → C.In wz V) := Lib.hid (fun wz hb => (h.below HB.out).below hb)
  have HBX : Hid (∀ wz, Below (w.alloc (.cells (V.cells C.max) 29)).heap.size (w.alloc (.cells (V.cells C.max) 29)) wz → Blk wz w.heap.size 29 (V.cells C.max)) := Lib.hid (fun wz hb => (Blk.new w _ _).below hb (by simp))
  have HRN : Hid (∀ wx, C.In wx V → _) := Lib.hid (fun wx hx => Renumber_no wx V C hx ok h0)
  obtain ⟨r, hr⟩ : ∃ r, (checkR C).2 = r := ⟨_, rfl⟩
  obtain ⟨m, hmm⟩ : ∃ m, C.max = m := ⟨_, rfl⟩
  obtain ⟨Vi, Vl, Vo, Vb, Vc, Vj, Vf, Va, Vs, Vt⟩ := V
  rw [hr, hmm] at HRN
  rw [hmm] at HB HBX HIN
  rw [hmm]
  rw [hr] at h0
  have hq : (r != 0) = true := by simpa using h0
  have H0 := Lib.hid h0
  clear h ok hr hmm h0
  go_enter Try.func7, Try.ntmps7
  go_upto_region 3 with (go_at_call 17; refine (works_any _).mono ?_; rintro e w1 ⟨rfl, hb1⟩; have HB1 := Lib.hid hb1; clear hb1; obtain ⟨c0, c1, c2, c3, c4, c5, c6, c7, c8, c9, c10⟩ := box_of (HBX.out w1 HB1.out))
  go_upto_region 4 with (go_at_call 18; go_loud (refine (HRN.out _ (HIN.out _ HB1.out)).mono ?_; rintro e w2 ⟨hb2, rfl⟩; have HB2 := Lib.hid (bt HB1.out (Nat.le_refl _) hb2); obtain ⟨d0, d1, d2, d3, d4, d5, d6, d7, d8, d9, d10⟩ := box_of (Blk.new w2 29 #[.int .i64 0, .slice none 0 0, .slice none 0 0, .slice none 0 0, .slice none 0 0, .slice none 0 0, .slice none 0 0, .slice none 0 0, .slice none 0 0, .slice none 0 0, .slice none 0 0]); clear c0 c1 c2 c3 c4 c5 c6 c7 c8 c9 c10 hb2))
  go_wp2
  go_ret
  exact ⟨rfl, (HB.out.trans (HB2.out.mono HB.out.size)).alloc (by have := HB.out.size; have := HB2.out.size; omega) _⟩

set_option maxHeartbeats 4000000 in
set_option maxRecDepth 100000 in
theorem settles_ok (w : World) (V : CV) (C : Circ) (h : C.In w V) (ok : C.Ok) (rm : C.Room) (h0 : (checkR C).2 = 0) :
    Calls Try.prog 7 #[V.val C.max] w fun e w' => e = .returned (.bool true) ∧ Below w.heap.size w w' := by
  have HB := Lib.hid ((Below.refl w.heap.size w).alloc (Nat.le_refl _) (.cells (V.cells C.max) 29))
  have HIN : Hid (∀ wz, Below (w.alloc (.cells (V.cells C.max) 29)).heap.size (w.alloc (.cells (V.cells C.max) 29)) wz → C.In wz V) := Lib.hid (fun wz hb => (h.below HB.out).below hb)
  have HBX : Hid (∀ wz, Below (w.alloc (.cells (V.cells C.max) 29)).heap.size (w.alloc (.cells (V.cells C.max) 29)) wz → Blk wz w.heap.size 29 (V.cells C.max)) := Lib.hid (fun wz hb => (Blk.new w _ _).below hb (by simp))
  have HRN : Hid (∀ wx, C.In wx V → _) := Lib.hid (fun wx hx => Renumber_ok wx V C hx ok rm h0)
  have HRT := Lib.hid (right_of h0)
  have HSE : Hid (∀ out, Greedy (usesC C) out → out.length = C.ands.length → Settled C (newM C out) (renC C out)) := Lib.hid (fun out hG hl => settled_of h0 ok rm hG hl)
  have HIA : Hid (∀ wx (V' : CV) (X : Circ) M, Settled C M X → X.In wx V' → _) := Lib.hid (fun wx V' X M hs hx => IsBinary_ok wx V' X hx hs.ok hs.check)
  have HRA : Hid (∀ wx (V' : CV) (X : Circ) M, Settled C M X → X.In wx V' → _) := Lib.hid (fun wx V' X M hs hx => Renumber_ok wx V' X hx hs.ok hs.room hs.check)
  obtain ⟨m, hmm⟩ : ∃ m : Nat, C.max = (m : Int) := ⟨C.max.toNat, by have := HRT.out.m0; omega⟩
  have HMM := Lib.hid hmm
  have hm1 : m ≤ 16384 := by have := HRT.out.m1; omega
  obtain ⟨AI, cI, eI, _, _, _⟩ := h.i
  obtain ⟨AL, cL, eL, _, _, _⟩ := h.l
  obtain ⟨AB, cB, eB, _, _, _⟩ := h.b
  obtain ⟨AC, cC, eC, _, _, _⟩ := h.c
  obtain ⟨AA, cA, eA, _, _, _⟩ := h.a
  obtain ⟨Vi, Vl, Vo, Vb, Vc, Vj, Vf, Va, Vs, Vt⟩ := V
  simp only at eI eL eB eC eA
  subst eI eL eB eC eA
  obtain ⟨nI, hnI⟩ : ∃ n, C.inputs.length = n := ⟨_, rfl⟩
  obtain ⟨nL, hnL⟩ : ∃ n, C.latches.length = n := ⟨_, rfl⟩
  obtain ⟨nB, hnB⟩ : ∃ n, C.bads.length = n := ⟨_, rfl⟩
  obtain ⟨nC, hnC⟩ : ∃ n, C.constraints.length = n := ⟨_, rfl⟩
  obtain ⟨nA, hnA⟩ : ∃ n, C.ands.length = n := ⟨_, rfl⟩
  have HN := Lib.hid (And.intro hnI (And.intro hnL (And.intro hnB (And.intro hnC hnA))))
  rw [hmm] at HRN HB HBX HIN
  rw [hnI, hnL, hnB, hnC, hnA] at HB HBX HIN
  rw [hnI, hnL, hnB, hnC, hnA] at HRN
  rw [hmm, hnI, hnL, hnB, hnC, hnA]
  clear h ok rm hmm h0 hnI hnL hnB hnC hnA
  go_enter Try.func7, Try.ntmps7
  go_upto_region 3 with (go_at_call 17; refine (works_any _).mono ?_; rintro e w1 ⟨rfl, hb1⟩; have HB1 := Lib.hid hb1; clear hb1; obtain ⟨c0, c1, c2, c3, c4, c5, c6, c7, c8, c9, c10⟩ := box_of (HBX.out w1 HB1.out))
  go_upto_region 4 with (go_at_call 18; go_loud (refine (HRN.out _ (HIN.out _ HB1.out)).mono ?_; rintro e w2 ⟨hb2, V', us, vm, out, rfl, hG, hl, hcop, hvm⟩; have HB2 := Lib.hid (bt HB1.out (Nat.le_refl _) hb2); have HG := Lib.hid hG; have HL := Lib.hid hl; have HCOP := Lib.hid hcop; have HVM := Lib.hid hvm; have hsl := hcop.slcs; obtain ⟨Wi, Wl, Wo, Wb, Wc, Wj, Wf, Wa, Ws, Wt⟩ := V'; obtain ⟨⟨i1, i2, i3, q1⟩, ⟨l1, l2, l3, q2⟩, ⟨o1, o2, o3, q3⟩, ⟨b1, b2, b3, q4⟩, ⟨d1, d2, d3, q5⟩, ⟨j1, j2, j3, q6⟩, ⟨f1, f2, f3, q7⟩, ⟨a1, a2, a3, q10⟩, ⟨s1, s2, s3, q8⟩, ⟨t1, t2, t3, q9⟩⟩ := hsl; simp only at q1 q2 q3 q4 q5 q6 q7 q8 q9 q10; subst q1 q2 q3 q4 q5 q6 q7 q8 q9 q10; clear c0 c1 c2 c3 c4 c5 c6 c7 c8 c9 c10 hb2 hG hl hcop hvm))
  have hse := HSE.out out HG.out (by rw [HL.out, HN.out.2.2.2.2])
  obtain ⟨X, hX⟩ : ∃ X, renC C out = X := ⟨_, rfl⟩
  obtain ⟨M, hM⟩ : ∃ M, newM C out = M := ⟨_, rfl⟩
  have hmX : X.max = (nI : Int) + nL + nA := by rw [← hX]; show (C.inputs.length : Int) + C.latches.length + C.ands.length = _; rw [HN.out.1, HN.out.2.1, HN.out.2.2.2.2]
  have hvm := HVM.out
  have hcop := HCOP.out
  rw [hX, hM] at hse
  rw [hX] at hcop
  rw [hM] at hvm
  rw [hX, hmX]
  have HSX := Lib.hid hse
  have HMX := Lib.hid hmX
  obtain rfl : nB = b2 := by
    obtain ⟨_, _, e, _, _, _⟩ := hcop.in_.b
    injection e with _ e _
    rw [e, hse.bads, List.length_map, HN.out.2.2.1]
  obtain rfl : nL = l2 := by
    obtain ⟨_, _, e, _, _, _⟩ := hcop.in_.l
    injection e with _ e _
    rw [e, hse.lats, List.length_map, HN.out.2.1]
  obtain rfl : nC = d2 := by
    obtain ⟨_, _, e, _, _, _⟩ := hcop.in_.c
    injection e with _ e _
    rw [e, hse.cons, List.length_map, HN.out.2.2.2.1]
  have hXB0 : Blk (w2.alloc (.cells #[.int .i64 ((nI : Int) + nL + nA), .slice i1 i2 i3, .slice l1 nL l3, .slice o1 o2 o3, .slice b1 nB b3, .slice d1 nC d3, .slice j1 j2 j3, .slice f1 f2 f3, .slice a1 a2 a3, .slice s1 s2 s3, .slice t1 t2 t3] 29)) w2.heap.size 29 #[.int .i64 ((nI : Int) + nL + nA), .slice i1 i2 i3, .slice l1 nL l3, .slice o1 o2 o3, .slice b1 nB b3, .slice d1 nC d3, .slice j1 j2 j3, .slice f1 f2 f3, .slice a1 a2 a3, .slice s1 s2 s3, .slice t1 t2 t3] := Blk.new w2 _ _
  have HXB : Hid (∀ wz, Below (w2.alloc (.cells #[.int .i64 ((nI : Int) + nL + nA), .slice i1 i2 i3, .slice l1 nL l3, .slice o1 o2 o3, .slice b1 nB b3, .slice d1 nC d3, .slice j1 j2 j3, .slice f1 f2 f3, .slice a1 a2 a3, .slice s1 s2 s3, .slice t1 t2 t3] 29)).heap.size (w2.alloc (.cells #[.int .i64 ((nI : Int) + nL + nA), .slice i1 i2 i3, .slice l1 nL l3, .slice o1 o2 o3, .slice b1 nB b3, .slice d1 nC d3, .slice j1 j2 j3, .slice f1 f2 f3, .slice a1 a2 a3, .slice s1 s2 s3, .slice t1 t2 t3] 29)) wz → Below w2.heap.size w2 wz ∧ Blk wz w2.heap.size 29 #[.int .i64 ((nI : Int) + nL + nA), .slice i1 i2 i3, .slice l1 nL l3, .slice o1 o2 o3, .slice b1 nB b3, .slice d1 nC d3, .slice j1 j2 j3, .slice f1 f2 f3, .slice a1 a2 a3, .slice s1 s2 s3, .slice t1 t2 t3] ∧ X.In wz ⟨.slice i1 i2 i3, .slice l1 nL l3, .slice o1 o2 o3, .slice b1 nB b3, .slice d1 nC d3, .slice j1 j2 j3, .slice f1 f2 f3, .slice a1 a2 a3, .slice s1 s2 s3, .slice t1 t2 t3⟩) := Lib.hid (fun wz hb => by
    have h1 : Below w2.heap.size w2 wz := ((Below.refl w2.heap.size w2).alloc (Nat.le_refl _) _).trans (hb.mono (by simp))
    exact ⟨h1, hXB0.below hb (by simp), hcop.in_.below h1⟩)
  obtain ⟨k0, k1, k2, k3, k4, k5, k6, k7, k8, k9, k10⟩ := box_of hXB0
  obtain ⟨gm, capm, e2, hgB, hgc, _, hmlt, hmc, _, _⟩ := own_cells hvm (by rw [hse.mlen]; omega)
  subst e2
  have HMC : Hid (∀ wz, Below w2.heap.size w2 wz → ∀ (i : Nat) (x : Int), M[i]? = some x → wz.cell? ⟨gm, i, none⟩ = some (.int .i64 x)) := Lib.hid (fun wz hb i x hx => by
    have hi := (List.getElem?_eq_some_iff.1 hx).1
    have := hmc i hi
    rw [show M.getD i 0 = x by simp [List.getD, hx]] at this
    exact (hb.cell (p := ⟨gm, i, none⟩) hmlt).trans this)
  have HOW : Hid (∀ wz, Below w2.heap.size w2 wz → Cop wz w1.heap.size ⟨.slice i1 i2 i3, .slice l1 nL l3, .slice o1 o2 o3, .slice b1 nB b3, .slice d1 nC d3, .slice j1 j2 j3, .slice f1 f2 f3, .slice a1 a2 a3, .slice s1 s2 s3, .slice t1 t2 t3⟩ us X) := Lib.hid (fun wz hb => hcop.below hb)
  rw [HSX.out.mlen, HMM.out, Int.toNat_natCast]
  have hnX : nI + nL + nA ≤ 16384 := by have := HSX.out.maxle; rw [HMX.out] at this; omega
  clear HSE HCOP HVM hse hX hM hmX hvm hcop hXB0 hgB hgc hmlt hmc
  go_upto_region 7 with (go_at_call 20; go_loud (have hia := HIA.out _ ⟨.slice i1 i2 i3, .slice l1 nL l3, .slice o1 o2 o3, .slice b1 nB b3, .slice d1 nC d3, .slice j1 j2 j3, .slice f1 f2 f3, .slice a1 a2 a3, .slice s1 s2 s3, .slice t1 t2 t3⟩ X M HSX.out (HXB.out _ (Below.refl _ _)).2.2; rw [HMX.out, HSX.out.bin] at hia; refine hia.mono ?_; rintro e w3 ⟨hb3, rfl⟩; have HB3 := Lib.hid hb3; obtain ⟨x1, x2, x3⟩ := HXB.out w3 hb3; clear k0 k1 k2 k3 k4 k5 k6 k7 k8 k9 k10; obtain ⟨k0, k1, k2, k3, k4, k5, k6, k7, k8, k9, k10⟩ := box_of x2; clear x1 x2 x3 hia hb3))
  go_upto_region 8 with (go_at_call 18; go_loud (have hra := HRA.out w3 ⟨.slice i1 i2 i3, .slice l1 nL l3, .slice o1 o2 o3, .slice b1 nB b3, .slice d1 nC d3, .slice j1 j2 j3, .slice f1 f2 f3, .slice a1 a2 a3, .slice s1 s2 s3, .slice t1 t2 t3⟩ X M HSX.out (HXB.out w3 HB3.out).2.2; rw [HMX.out] at hra; refine hra.mono ?_; rintro e w4 ⟨hb4, V'', us2, vm2, out2, rfl, hG2, hl2, hcop2, _⟩; have htw := HSX.out.twice out2 hG2 hl2; rw [htw] at hcop2; rw [htw, HMX.out]; have HB4 := Lib.hid (bt HB3.out (Nat.le_refl _) hb4); have hsl := hcop2.slcs; have hin2 := hcop2.in_; obtain ⟨Ui, Ul, Uo, Ub, Uc, Uj, Uf, Ua, Us, Ut⟩ := V''; obtain ⟨⟨i1', i2', i3', q1⟩, ⟨l1', l2', l3', q2⟩, ⟨o1', o2', o3', q3⟩, ⟨b1', b2', b3', q4⟩, ⟨d1', d2', d3', q5⟩, ⟨j1', j2', j3', q6⟩, ⟨f1', f2', f3', q7⟩, ⟨a1', a2', a3', q10⟩, ⟨s1', s2', s3', q8⟩, ⟨t1', t2', t3', q9⟩⟩ := hsl; simp only at q1 q2 q3 q4 q5 q6 q7 q8 q9 q10; subst q1 q2 q3 q4 q5 q6 q7 q8 q9 q10; have HIN2 := Lib.hid hin2; clear k0 k1 k2 k3 k4 k5 k6 k7 k8 k9 k10 hb4 hG2 hl2 hcop2 htw hra hin2))
  have HB4' : Hid (Below (w2.alloc (.cells #[.int .i64 ((nI : Int) + nL + nA), .slice i1 i2 i3, .slice l1 nL l3, .slice o1 o2 o3, .slice b1 nB b3, .slice d1 nC d3, .slice j1 j2 j3, .slice f1 f2 f3, .slice a1 a2 a3, .slice s1 s2 s3, .slice t1 t2 t3] 29)).heap.size (w2.alloc (.cells #[.int .i64 ((nI : Int) + nL + nA), .slice i1 i2 i3, .slice l1 nL l3, .slice o1 o2 o3, .slice b1 nB b3, .slice d1 nC d3, .slice j1 j2 j3, .slice f1 f2 f3, .slice a1 a2 a3, .slice s1 s2 s3, .slice t1 t2 t3] 29)) (w4.alloc (.cells #[.int .i64 ((nI : Int) + nL + nA), .slice i1' i2' i3', .slice l1' l2' l3', .slice o1' o2' o3', .slice b1' b2' b3', .slice d1' d2' d3', .slice j1' j2' j3', .slice f1' f2' f3', .slice a1' a2' a3', .slice s1' s2' s3', .slice t1' t2' t3'] 29))) := Lib.hid (HB4.out.alloc HB4.out.size _)
  have hYB0 : Blk (w4.alloc (.cells #[.int .i64 ((nI : Int) + nL + nA), .slice i1' i2' i3', .slice l1' l2' l3', .slice o1' o2' o3', .slice b1' b2' b3', .slice d1' d2' d3', .slice j1' j2' j3', .slice f1' f2' f3', .slice a1' a2' a3', .slice s1' s2' s3', .slice t1' t2' t3'] 29)) w4.heap.size 29 #[.int .i64 ((nI : Int) + nL + nA), .slice i1' i2' i3', .slice l1' l2' l3', .slice o1' o2' o3', .slice b1' b2' b3', .slice d1' d2' d3', .slice j1' j2' j3', .slice f1' f2' f3', .slice a1' a2' a3', .slice s1' s2' s3', .slice t1' t2' t3'] := Blk.new w4 _ _
  have HIN3 : Hid (X.In (w4.alloc (.cells #[.int .i64 ((nI : Int) + nL + nA), .slice i1' i2' i3', .slice l1' l2' l3', .slice o1' o2' o3', .slice b1' b2' b3', .slice d1' d2' d3', .slice j1' j2' j3', .slice f1' f2' f3', .slice a1' a2' a3', .slice s1' s2' s3', .slice t1' t2' t3'] 29)) ⟨.slice i1' i2' i3', .slice l1' l2' l3', .slice o1' o2' o3', .slice b1' b2' b3', .slice d1' d2' d3', .slice j1' j2' j3', .slice f1' f2' f3', .slice a1' a2' a3', .slice s1' s2' s3', .slice t1' t2' t3'⟩) := Lib.hid (HIN2.out.below ((Below.refl _ _).alloc (Nat.le_refl _) _))
  obtain ⟨x1, x2, x3⟩ := HXB.out _ HB4'.out
  obtain ⟨k0, k1, k2, k3, k4, k5, k6, k7, k8, k9, k10⟩ := box_of x2
  obtain ⟨y0, y1, y2, y3, y4, y5, y6, y7, y8, y9, y10⟩ := box_of hYB0
  have HX3 := Lib.hid x3
  clear x1 x2 x3 hYB0
  go_upto_region 10 with (go_at_call 25; go_loud (have hsa := Same_any _ ⟨.slice i1 i2 i3, .slice l1 nL l3, .slice o1 o2 o3, .slice b1 nB b3, .slice d1 nC d3, .slice j1 j2 j3, .slice f1 f2 f3, .slice a1 a2 a3, .slice s1 s2 s3, .slice t1 t2 t3⟩ ⟨.slice i1' i2' i3', .slice l1' l2' l3', .slice o1' o2' o3', .slice b1' b2' b3', .slice d1' d2' d3', .slice j1' j2' j3', .slice f1' f2' f3', .slice a1' a2' a3', .slice s1' s2' s3', .slice t1' t2' t3'⟩ X X HX3.out HIN3.out; rw [HMX.out] at hsa; refine hsa.mono ?_; rintro e w5 ⟨r, rfl, hr, hb5⟩; have hrt := hr.2 rfl; subst hrt; have HB5 := Lib.hid (bt HB4'.out (Nat.le_refl _) hb5); clear k0 k1 k2 k3 k4 k5 k6 k7 k8 k9 k10 y0 y1 y2 y3 y4 y5 y6 y7 y8 y9 y10; obtain ⟨x1, x2, x3⟩ := HXB.out w5 HB5.out; obtain ⟨k0, k1, k2, k3, k4, k5, k6, k7, k8, k9, k10⟩ := box_of x2; obtain ⟨c0, c1, c2, c3, c4, c5, c6, c7, c8, c9, c10⟩ := box_of (HBX.out w5 (bt HB2.out (Nat.le_refl _) x1)); clear x1 x2 x3 hsa hb5 hr))
  have hmk := make_bools (nI + nL + nA + 1) (by omega)
  push_cast at hmk
  have HT0 : Hid (Below w5.heap.size w5 (w5.alloc (.cells (madeCells #[Value.bool false] (nI + nL + nA + 1)) 4)) ∧ Tab (w5.alloc (.cells (madeCells #[Value.bool false] (nI + nL + nA + 1)) 4)) w5.heap.size (seenF (nI + nL + nA + 1) (M.take 0))) := Lib.hid ⟨(Below.refl _ _).alloc (Nat.le_refl _) _, by
    rw [made_bools]
    exact Blk.new w5 _ _⟩
  have HXW : Hid (∀ wz, Below w5.heap.size w5 wz → Below w2.heap.size w2 wz ∧ Blk wz w2.heap.size 29 #[.int .i64 ((nI : Int) + nL + nA), .slice i1 i2 i3, .slice l1 nL l3, .slice o1 o2 o3, .slice b1 nB b3, .slice d1 nC d3, .slice j1 j2 j3, .slice f1 f2 f3, .slice a1 a2 a3, .slice s1 s2 s3, .slice t1 t2 t3] ∧ X.In wz ⟨.slice i1 i2 i3, .slice l1 nL l3, .slice o1 o2 o3, .slice b1 nB b3, .slice d1 nC d3, .slice j1 j2 j3, .slice f1 f2 f3, .slice a1 a2 a3, .slice s1 s2 s3, .slice t1 t2 t3⟩) := Lib.hid (fun wz hb => HXB.out wz (bt HB5.out (Nat.le_refl _) hb))
  have HCW : Hid (∀ wz, Below w5.heap.size w5 wz → C.In wz ⟨.slice AI nI cI, .slice AL nL cL, Vo, .slice AB nB cB, .slice AC nC cC, Vj, Vf, .slice AA nA cA, Vs, Vt⟩ ∧ Blk wz w.heap.size 29 #[.int .i64 (m : Int), .slice AI nI cI, .slice AL nL cL, Vo, .slice AB nB cB, .slice AC nC cC, Vj, Vf, .slice AA nA cA, Vs, Vt] ∧ Below w.heap.size w wz) := Lib.hid (fun wz hb =>
    have h1 := bt HB2.out (Nat.le_refl _) (HXB.out wz (bt HB5.out (Nat.le_refl _) hb)).1
    ⟨HIN.out wz h1, HBX.out wz h1, HB.out.trans (h1.mono HB.out.size)⟩)
  have HML : Hid (M.length = m + 1) := Lib.hid (by rw [HSX.out.mlen, HMM.out, Int.toNat_natCast])
  have hnb : nB ≤ 16384 := by rw [← HN.out.2.2.1]; exact HRT.out.nb
  have HTN : Hid (X.max.toNat + 1 = (nI + nL + nA + 1)) := Lib.hid (by rw [HMX.out]; omega)
  clear c0 c1 c2 c3 c4 c5 c6 c7 c8 c9 c10
  go_wp2
  clear k0 k1 k2 k3 k4 k5 k6 k7 k8 k9 k10 hmk
  go_loopg [12, 95] (m + 1) (fun k mv j wx => ∃ q : Nat, q ≤ m + 1 ∧ k = m + 1 - q ∧ mv = .int .i64 (((M.take q).countP (fun x => decide (0 < x)) : Nat) : Int) ∧ j = .int .i64 q ∧ Below w5.heap.size w5 wx ∧ Tab wx w5.heap.size (seenF (nI + nL + nA + 1) (M.take q)))
  case atStart => exact ⟨0, Nat.zero_le _, rfl, rfl, rfl, HT0.out.1, HT0.out.2⟩
  case round =>
    obtain ⟨q, hq, hgk, rfl, rfl, hbl, htb⟩ := hrel
    subst hgk
    have HBL := Lib.hid hbl
    have HTB := Lib.hid htb
    obtain ⟨hx1, hx2, hx3⟩ := HXW.out wr hbl
    obtain ⟨k0, k1, k2, k3, k4, k5, k6, k7, k8, k9, k10⟩ := box_of hx2
    have hcnt : (M.take q).countP (fun x => decide (0 < x)) ≤ m + 1 := Nat.le_trans List.countP_le_length (by rw [List.length_take]; omega)
    have hcnt2 : (((M.take q).countP (fun x => decide (0 < x)) : Nat) : Int) ≤ 20000 := by omega
    by_cases hlt : q < m + 1
    · obtain ⟨x, hx⟩ : ∃ x, M[q]? = some x := ⟨_, List.getElem?_eq_getElem (by rw [HML.out]; exact hlt)⟩
      have hxc := HMC.out wr hx1 q x hx
      obtain ⟨r0, r1, r2, r3⟩ := HSX.out.rng q x hx
      rw [HMX.out] at r1
      have r4 : x.tmod 2 = 0 := by rw [Int.tmod_eq_emod_of_nonneg r0]; exact r2
      have HX := Lib.hid hx
      have hsx : M.take (q + 1) = M.take q ++ [x] := by rw [List.take_add_one, hx]; rfl
      have HSXX := Lib.hid hsx
      by_cases h0 : 0 < x
      · have hfr := HSX.out.fresh (by rw [HMX.out]; omega) hx h0
        rw [HTN.out] at hfr
        have hs0 := htb.cell hfr
        have hs1 := Blk.frozen htb (x / 2).toNat
        have hq0 : 0 < q := by
          rcases Nat.eq_zero_or_pos q with e | e
          · have := r3 e; omega
          · exact e
        have hdv := tdiv_nn (b := 2) r0
        have hd0 : 0 ≤ x / 2 := by omega
        have hd1 : x / 2 < (((nI + nL + nA + 1) : Nat) : Int) := by omega
        have H0 := Lib.hid h0
        clear hbl htb hx hfr hx1 hx2 hx3 hsx r3 hcnt
        generalize hcg : (((M.take q).countP (fun x => decide (0 < x)) : Nat) : Int) = cg at *
        have HCG := Lib.hid hcg
        have hcg0 : 0 ≤ cg := by omega
        clear hcg
        go_wp2
        go_roundg (m + 1 - (q + 1))
        case measure => omega
        case rel =>
          refine ⟨q + 1, by omega, rfl, ?_, by go_num, below_set HBL.out (Nat.le_refl _) _ _, ?_⟩
          · rw [HSXX.out, List.countP_append]
            simp only [List.countP_cons, List.countP_nil, H0.out, decide_true, if_true]
            push_cast
            rw [HCG.out]
          · rw [HSXX.out, seenF_snoc, if_pos H0.out]
            exact Tab.set_ HTB.out _ true
      · have hx0 : x = 0 := by omega
        subst hx0
        clear hbl htb hx hx1 hx2 hx3 hsx r3 hcnt
        generalize hcg : (((M.take q).countP (fun x => decide (0 < x)) : Nat) : Int) = cg at *
        have HCG := Lib.hid hcg
        have hcg0 : 0 ≤ cg := by omega
        clear hcg
        go_wp2
        all_goals (
          go_roundg (m + 1 - (q + 1))
          case measure => omega
          case rel =>
            refine ⟨q + 1, by omega, rfl, ?_, by go_num, HBL.out, ?_⟩
            · rw [HSXX.out, List.countP_append]
              simp only [List.countP_cons, List.countP_nil]
              simp
              rw [← HCG.out]
            · rw [HSXX.out, seenF_snoc, if_neg (by decide)]
              exact HTB.out)
    · have hqe : q = m + 1 := by omega
      subst hqe
      have hall : (((M.take (m + 1)).countP (fun x => decide (0 < x)) : Nat) : Int) = (nI : Int) + nL + nA := by
        rw [List.take_of_length_le (by rw [HML.out]; exact Nat.le_refl _), HSX.out.count, HMX.out]
      obtain ⟨hc1, hc2, hc3⟩ := HCW.out wr hbl
      obtain ⟨c0, c1, c2, c3, c4, c5, c6, c7, c8, c9, c10⟩ := box_of hc2
      rw [hall] at *
      clear hbl htb hx1 hx2 hx3 hc1 hc2 hc3 hall hcnt hcnt2
      go_wp2
      clear c0 c1 c2 c3 c4 c5 c6 c7 c8 c9 c10 k0 k1 k2 k3 k4 k5 k6 k7 k8 k9 k10
      go_loopg [170] nB (fun k j wx => ∃ q : Nat, q ≤ nB ∧ k = nB - q ∧ j = .int .i64 q ∧ Below w5.heap.size w5 wx)
      case atStart => exact ⟨0, Nat.zero_le _, rfl, rfl, HBL.out⟩
      case round =>
        obtain ⟨q, hq, hgk, rfl, hbl⟩ := hrel
        subst hgk
        have HBL2 := Lib.hid hbl
        obtain ⟨hx1, hx2, hx3⟩ := HXW.out _ hbl
        obtain ⟨hc1, hc2, hc3⟩ := HCW.out _ hbl
        obtain ⟨c0, c1, c2, c3, c4, c5, c6, c7, c8, c9, c10⟩ := box_of hc2
        obtain ⟨k0, k1, k2, k3, k4, k5, k6, k7, k8, k9, k10⟩ := box_of hx2
        by_cases hlt : q < nB
        · obtain ⟨z, hz⟩ : ∃ z, C.bads[q]? = some z := ⟨_, List.getElem?_eq_getElem (by rw [HN.out.2.2.1]; exact hlt)⟩
          have hz2 : X.bads[q]? = some (mvF M z) := by rw [HSX.out.bads, List.getElem?_map, hz]; rfl
          obtain ⟨A', c', eA', _, _, hrun⟩ := hc1.b
          injection eA' with g1 g2 g3
          subst g1
          clear g2 g3
          obtain ⟨b, off, rfl, hb, hcell⟩ := hrun q z hz
          have o0 := hcell 0 _ rfl
          simp only [Nat.mul_one, Nat.add_zero] at o0
          obtain ⟨A2, c2', eA2, _, _, hrun2⟩ := hx3.b
          injection eA2 with g1 g2 g3
          subst g1
          clear g2 g3
          obtain ⟨bb2, off2, e2, hbb2, hcell2⟩ := hrun2 q _ hz2
          subst e2
          have o1 := hcell2 0 _ rfl
          simp only [Nat.mul_one, Nat.add_zero] at o1
          obtain ⟨z0, z1⟩ := HRT.out.b z (List.mem_of_getElem? hz)
          rw [HMM.out] at z1
          obtain ⟨y, hy⟩ : ∃ y, M[(z / 2).toNat]? = some y := ⟨_, List.getElem?_eq_getElem (by rw [HML.out]; omega)⟩
          have o2 := HMC.out _ hx1 _ y hy
          obtain ⟨y0, y1, y2, _⟩ := HSX.out.rng _ y hy
          rw [HMX.out] at y1
          have hmv : mvF M z = y + z % 2 := by unfold mvF; simp [List.getD, hy]
          have hxo : bits .xor .i64 y (z % 2) = y + z % 2 := xor_lit y0 y2 (by omega) (by omega) (by omega)
          rw [hmv] at o1
          have hdv := tdiv_nn (b := 2) z0
          have hd0 : 0 ≤ z / 2 := by omega
          have hd1 : z / 2 < ((m : Nat) : Int) + 1 := by omega
          clear hbl hx1 hx2 hx3 hc1 hc2 hc3 hz hz2 hcell hcell2 hrun hrun2 hy hmv
          go_wp2
          go_quiet (fail)
          go_wp2
          go_roundg (nB - (q + 1))
          case measure => omega
          case rel => exact ⟨q + 1, by omega, rfl, by go_num, below_drewN HBL2.out _⟩
        · have hqe : nB = q := by omega
          subst hqe
          clear hbl hx1 hx2 hx3 hc1 hc2 hc3 hq
          go_wp2
          clear c0 c1 c2 c3 c4 c5 c6 c7 c8 c9 c10 k0 k1 k2 k3 k4 k5 k6 k7 k8 k9 k10
          go_loopg [193] nL (fun k j wx => ∃ q : Nat, q ≤ nL ∧ k = nL - q ∧ j = .int .i64 q ∧ Below w5.heap.size w5 wx)
          case atStart => exact ⟨0, Nat.zero_le _, rfl, rfl, HBL2.out⟩
          case round =>
            obtain ⟨p, hp, hgk, rfl, hbl⟩ := hrel
            subst hgk
            have HBL3 := Lib.hid hbl
            obtain ⟨hx1, hx2, hx3⟩ := HXW.out _ hbl
            obtain ⟨hc1, hc2, hc3⟩ := HCW.out _ hbl
            obtain ⟨c0, c1, c2, c3, c4, c5, c6, c7, c8, c9, c10⟩ := box_of hc2
            by_cases hlt : p < nL
            · obtain ⟨z, hz⟩ : ∃ z, C.latches[p]? = some z := ⟨_, List.getElem?_eq_getElem (by rw [HN.out.2.1]; exact hlt)⟩
              have hz2 : X.latches[p]? = some (mvL M z) := by rw [HSX.out.lats, List.getElem?_map, hz]; rfl
              obtain ⟨A', c', eA', _, _, hrun⟩ := hc1.l
              injection eA' with g1 g2 g3
              subst g1
              clear g2 g3
              obtain ⟨b, off, rfl, hb, hcell⟩ := hrun p z hz
              have o0 := hcell 0 _ rfl
              have o1 := hcell 1 _ rfl
              have o2 := hcell 2 _ rfl
              simp only [Nat.add_zero, ← Nat.add_assoc] at o0 o1 o2
              have hw1 : Below w5.heap.size w5 (wr.alloc (.cells #[.int .i64 z.1, .int .i64 z.2.1, .int .i64 z.2.2] 52)) := hbl.alloc hbl.size _
              have HW1 := Lib.hid hw1
              obtain ⟨hy1, hy2, hy3⟩ := HXW.out _ hw1
              obtain ⟨k0, k1, k2, k3, k4, k5, k6, k7, k8, k9, k10⟩ := box_of hy2
              obtain ⟨A2, c2', eA2, _, _, hrun2⟩ := hy3.l
              injection eA2 with g1 g2 g3
              subst g1
              clear g2 g3
              obtain ⟨bb2, off2, e2, hbb2, hcell2⟩ := hrun2 p _ hz2
              subst e2
              have n0 := hcell2 0 _ rfl
              have n1 := hcell2 1 _ rfl
              simp only [Nat.add_zero, ← Nat.add_assoc] at n0 n1
              have hbz := Blk.new wr 52 #[.int .i64 z.1, .int .i64 z.2.1, .int .i64 z.2.2]
              have v0 := hbz.cell 0
              have v1 := hbz.cell 1
              simp only [List.getElem?_toArray, List.getElem?_cons_zero, List.getElem?_cons_succ] at v0 v1
              obtain ⟨⟨z0, z1⟩, ⟨z2, z3⟩, _⟩ := HRT.out.l z (List.mem_of_getElem? hz)
              rw [HMM.out] at z1 z3
              have z4 := (HSX.out.even z (List.mem_of_getElem? hz))
              obtain ⟨z, zn, zr⟩ := z
              simp only at o0 o1 o2 v0 v1 z0 z1 z2 z3 z4
              obtain ⟨y, hy⟩ : ∃ y, M[(z / 2).toNat]? = some y := ⟨_, List.getElem?_eq_getElem (by rw [HML.out]; omega)⟩
              obtain ⟨yn, hyn⟩ : ∃ y, M[(zn / 2).toNat]? = some y := ⟨_, List.getElem?_eq_getElem (by rw [HML.out]; omega)⟩
              have u2 := HMC.out _ hy1 _ y hy
              have u3 := HMC.out _ hy1 _ yn hyn
              obtain ⟨y0, y1, y2, _⟩ := HSX.out.rng _ y hy
              obtain ⟨yn0, yn1, yn2, _⟩ := HSX.out.rng _ yn hyn
              rw [HMX.out] at y1 yn1
              have hmv : (mvL M (z, zn, zr)).1 = y := by
                show M.getD (z / 2).toNat 0 + z % 2 = y
                simp [List.getD, hy, z4]
              have hmvn : (mvL M (z, zn, zr)).2.1 = yn + zn % 2 := by
                show M.getD (zn / 2).toNat 0 + zn % 2 = _
                simp [List.getD, hyn]
              rw [hmv] at n0
              rw [hmvn] at n1
              have hxo : bits .xor .i64 yn (zn % 2) = yn + zn % 2 := xor_lit yn0 yn2 (by omega) (by omega) (by omega)
              have hdv := tdiv_nn (b := 2) (show 0 ≤ z by omega)
              have hdvn := tdiv_nn (b := 2) z2
              have hd0 : 0 ≤ z / 2 := by omega
              have hd1 : z / 2 < ((m : Nat) : Int) + 1 := by omega
              have hdn0 : 0 ≤ zn / 2 := by omega
              have hdn1 : zn / 2 < ((m : Nat) : Int) + 1 := by omega
              clear hbl hx1 hx2 hx3 hc1 hc2 hc3 hz hz2 hcell hcell2 hrun hrun2 hy hyn hmv hmvn hy1 hy2 hy3 hbz hw1
              go_wp2
              go_quiet (fail)
              go_wp2
              go_roundg (nL - (p + 1))
              case measure => omega
              case rel => exact ⟨p + 1, by omega, rfl, by go_num, below_drewN HW1.out _⟩
            · have hpe : nL = p := by omega
              subst hpe
              clear hbl hx1 hx2 hx3 hc1 hc2 hp
              go_wp2
              go_ret
              exact ⟨rfl, hc3⟩
theorem settles_walk (w : World) (V : CV) (C : Circ) (h : C.In w V) (ok : C.Ok) (rm : C.Room) :
    Calls Try.prog 7 #[V.val C.max] w fun e w' => e = .returned (.bool true) ∧ Below w.heap.size w w' := by
  by_cases h0 : (checkR C).2 = 0
  · exact settles_ok w V C h ok rm h0
  · exact settles_no w V C h ok h0
end Go.Proofs.Ytfcjdfjobneeeaa

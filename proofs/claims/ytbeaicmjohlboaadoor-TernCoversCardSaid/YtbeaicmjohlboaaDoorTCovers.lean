/- The walk of TernCovers: for whatever circuit, rows and word the statement's Go function answers true, and nothing that was there has turned. -/
import Derived.Test.YtbeaicmjohlboaaDoorTrnX
import Derived.Test.YtbeaicmjohlboaaDoorTFill
import Derived.Test.YtbeaicmjohlboaaDoorSimE
namespace Go.Proofs.YtbeaicmjohlboaaDoor
open Go.RowKit

theorem trioC_of {w : World} {g : Nat} {t : TypeId} {a b c : Value} (h : Blk w g t #[a, b, c]) : w.cell? ⟨g, 0, none⟩ = some a ∧ w.cell? ⟨g, 1, none⟩ = some b ∧ w.cell? ⟨g, 2, none⟩ = some c := ⟨by rw [h.cell]; rfl, by rw [h.cell]; rfl, by rw [h.cell]; rfl⟩
theorem tabC_get {w : World} {g : Nat} {T : List Bool} (h : Tab w g T) {k : Nat} (hk : k < T.length) {b : Bool} (hb : T.getD k false = b) : w.cell? ⟨g, k, none⟩ = some (.bool b) := by
  have := h.cell (getD_bool hk)
  rwa [hb] at this
theorem numsC_get {w : World} {g : Nat} {T : List Int} (h : Nums w g T) {k : Nat} (hk : k < T.length) {x : Int} (hx : T.getD k 0 = x) : w.cell? ⟨g, k, none⟩ = some (.int .i64 x) := by
  have := Nums.cell h (getD_int hk)
  rwa [hx] at this
/-- What is defined is marked. -/
theorem held_defs {C : Circ} {n : Nat} (h0 : (checkR C).2 = 0) (hn : n = C.max.toNat + 1) {v : Nat} (h : (heldF (C.ands.map (·.1)) (heldF (C.latches.map (·.1)) (heldF C.inputs (List.replicate n false)))).getD v false = false) : 2 * (v : Int) ∉ defsL C := by
  have hr := right_of h0
  have b1 : ∀ l ∈ C.inputs, (l / 2).toNat < (List.replicate n false).length := fun l hl => by have := hr.i l hl; obtain ⟨_, _⟩ := this; rw [List.length_replicate]; omega
  have b2 : ∀ l ∈ C.latches.map (·.1), (l / 2).toNat < (heldF C.inputs (List.replicate n false)).length := fun l hl => by
    obtain ⟨z, hz, rfl⟩ := List.mem_map.1 hl
    obtain ⟨_, _⟩ := (hr.l z hz).1
    rw [heldF_len, List.length_replicate]; omega
  have b3 : ∀ l ∈ C.ands.map (·.1), (l / 2).toNat < (heldF (C.latches.map (·.1)) (heldF C.inputs (List.replicate n false))).length := fun l hl => by
    obtain ⟨z, hz, rfl⟩ := List.mem_map.1 hl
    obtain ⟨_, _⟩ := (hr.a z hz).1
    rw [heldF_len, heldF_len, List.length_replicate]; omega
  intro hm
  have key : (heldF (C.ands.map (·.1)) (heldF (C.latches.map (·.1)) (heldF C.inputs (List.replicate n false)))).getD v false = true := by
    rw [heldF_get _ _ b3, heldF_get _ _ b2, heldF_get _ _ b1]
    unfold defsL at hm
    simp only [List.mem_append] at hm
    rcases hm with (hm | hm) | hm
    · exact .inl (.inl (.inr ⟨_, hm, by omega⟩))
    · exact .inl (.inr ⟨_, hm, by omega⟩)
    · exact .inr ⟨_, hm, by omega⟩
  rw [h] at key
  cases key

set_option maxHeartbeats 20000000 in
set_option maxRecDepth 100000 in
theorem ternCovers_walk (w : World) (V : CV) (C : Circ) (K : KV) (k : Kase) (a : Int) (htc : TabC w) (h : C.In w V) (ok : C.Ok) (_rm : C.Room ∧ C.Reach) (hk : k.In w K) (_hkr : k.Reach) (haw : 0 ≤ a ∧ a ≤ 18446744073709551615) :
    Calls Tryd.prog 6 #[V.val C.max, K.val, .int .u64 a] w fun e w' => e = .returned (.bool true) ∧ Below w.heap.size w w' := by
  obtain ⟨O, hO⟩ := ord_ex h ok
  obtain ⟨Kl, Ki, Ks⟩ := K
  obtain ⟨L, I, S⟩ := k
  obtain ⟨hs, hr, ht⟩ := hk
  simp only at hs hr ht
  obtain ⟨sA, sn, sc, hse⟩ := slT_form hs
  obtain ⟨rA, rn, rc, hre⟩ := slT_form hr
  subst hse hre
  have HVAL := Lib.hid (fun (wx : World) (hb : Below w.heap.size w wx) => tValues_any wx V C _ _ L I O (h.below hb) ok (htc.below hb) (hs.below hb) (hr.below hb) hO)
  have HSTP := Lib.hid (fun (wx : World) (hb : Below w.heap.size w wx) => tStep_any wx V C _ _ L I O (h.below hb) ok (htc.below hb) (hs.below hb) (hr.below hb) hO)
  have HSV := Lib.hid (fun (wx : World) (v u : Value) (st row : List Bool) (hb : Below w.heap.size w wx) (hy : RowE 1 encO wx v st) (hz : RowE 1 encO wx u row) => Values_any wx V C v u st row O (h.below hb) ok hy hz hO)
  have HNX := Lib.hid (fun (wx : World) (v u : Value) (st row : List Bool) (hb : Below w.heap.size w wx) (hy : RowE 1 encO wx v st) (hz : RowE 1 encO wx u row) => Next_any wx V C v u st row O (h.below hb) ok hy hz hO)
  have HFL := Lib.hid (fun (wx : World) (b : Int) (hb : Below w.heap.size w wx) (h3 : Row3 L) (hl : L.length ≤ 16384) (hw : 0 ≤ b ∧ b ≤ 18446744073709551615) => filled_any wx _ L b (hs.below hb) h3 hl hw)
  have HFI := Lib.hid (fun (wx : World) (b : Int) (hb : Below w.heap.size w wx) (h3 : Row3 I) (hl : I.length ≤ 16384) (hw : 0 ≤ b ∧ b ≤ 18446744073709551615) => filled_any wx _ I b (hr.below hb) h3 hl hw)
  have HTC := Lib.hid htc
  obtain ⟨AI, cI, eI, _, _, rI⟩ := h.i
  obtain ⟨AL, cL, eL, _, _, rL⟩ := h.l
  obtain ⟨AA, cA, eA, _, _, rA'⟩ := h.a
  obtain ⟨Vi, Vl, Vo, Vb, Vc, Vj, Vf, Va, Vs, Vt⟩ := V
  simp only at eI eL eA
  subst eI eL eA
  obtain ⟨m, hmm⟩ : ∃ m, C.max = m := ⟨_, rfl⟩
  obtain ⟨nI, hnI⟩ : ∃ n, C.inputs.length = n := ⟨_, rfl⟩
  obtain ⟨nL, hnL⟩ : ∃ n, C.latches.length = n := ⟨_, rfl⟩
  obtain ⟨nA, hnA⟩ : ∃ n, C.ands.length = n := ⟨_, rfl⟩
  rw [hmm, hnI, hnL, hnA] at HVAL HSV HNX HSTP
  rw [hmm, hnI, hnL, hnA]
  have HALL : Hid (∀ wz, Below ((w.alloc (.cells #[.int .i64 m, .slice AI nI cI, .slice AL nL cL, Vo, Vb, Vc, Vj, Vf, .slice AA nA cA, Vs, Vt] 29)).alloc (.cells #[.slice sA sn sc, .slice rA rn rc, Ks] 45)).heap.size ((w.alloc (.cells #[.int .i64 m, .slice AI nI cI, .slice AL nL cL, Vo, Vb, Vc, Vj, Vf, .slice AA nA cA, Vs, Vt] 29)).alloc (.cells #[.slice sA sn sc, .slice rA rn rc, Ks] 45)) wz → Blk wz w.heap.size 29 #[.int .i64 m, .slice AI nI cI, .slice AL nL cL, Vo, Vb, Vc, Vj, Vf, .slice AA nA cA, Vs, Vt] ∧ Blk wz (w.heap.size + 1) 45 #[.slice sA sn sc, .slice rA rn rc, Ks] ∧ Below w.heap.size w wz) := Lib.hid (fun wz hb => by
    have h2 : Blk ((w.alloc (.cells #[.int .i64 m, .slice AI nI cI, .slice AL nL cL, Vo, Vb, Vc, Vj, Vf, .slice AA nA cA, Vs, Vt] 29)).alloc (.cells #[.slice sA sn sc, .slice rA rn rc, Ks] 45)) (w.heap.size + 1) 45 #[.slice sA sn sc, .slice rA rn rc, Ks] := by
      have := Blk.new (w.alloc (.cells #[.int .i64 m, .slice AI nI cI, .slice AL nL cL, Vo, Vb, Vc, Vj, Vf, .slice AA nA cA, Vs, Vt] 29)) 45 #[.slice sA sn sc, .slice rA rn rc, Ks]
      rw [show (w.alloc (.cells #[.int .i64 m, .slice AI nI cI, .slice AL nL cL, Vo, Vb, Vc, Vj, Vf, .slice AA nA cA, Vs, Vt] 29)).heap.size = w.heap.size + 1 by simp] at this
      exact this
    exact ⟨((Blk.new w _ _).alloc _).below hb (by simp; omega), h2.below hb (by simp), (((Below.refl w.heap.size w).alloc (Nat.le_refl _) _).alloc (by simp) _).trans (hb.mono (by simp; omega))⟩)
  have HX : Hid (Below ((w.alloc (.cells #[.int .i64 m, .slice AI nI cI, .slice AL nL cL, Vo, Vb, Vc, Vj, Vf, .slice AA nA cA, Vs, Vt] 29)).alloc (.cells #[.slice sA sn sc, .slice rA rn rc, Ks] 45)).heap.size ((w.alloc (.cells #[.int .i64 m, .slice AI nI cI, .slice AL nL cL, Vo, Vb, Vc, Vj, Vf, .slice AA nA cA, Vs, Vt] 29)).alloc (.cells #[.slice sA sn sc, .slice rA rn rc, Ks] 45)) ((w.alloc (.cells #[.int .i64 m, .slice AI nI cI, .slice AL nL cL, Vo, Vb, Vc, Vj, Vf, .slice AA nA cA, Vs, Vt] 29)).alloc (.cells #[.slice sA sn sc, .slice rA rn rc, Ks] 45))) := Lib.hid (Below.refl _ _)
  have HRI := Lib.hid rI
  have HRL := Lib.hid rL
  have HRA := Lib.hid rA'
  have HMM := Lib.hid hmm
  have HNI := Lib.hid hnI
  have HNL := Lib.hid hnL
  have HNA := Lib.hid hnA
  have HO := Lib.hid hO
  clear h ok rI rL rA' hmm hnI hnL hnA hO hs hr ht htc
  obtain ⟨c0, c1, c2, c3, c4, c5, c6, c7, c8, c9, c10⟩ := rbox_of (HALL.out _ HX.out).1; obtain ⟨x0, x1, x2⟩ := trioC_of (HALL.out _ HX.out).2.1
  by_cases h0 : fit3 C L I = 0
  · rw [h0] at HVAL HSTP
    obtain ⟨hck, ⟨hLl, hL3⟩, hIl, hI3⟩ := fit3_ok h0
    have HRT := Lib.hid (right_of hck)
    obtain ⟨mn, hmn⟩ : ∃ mn : Nat, m = (mn : Int) := ⟨m.toNat, by have := (right_of hck).m0; rw [HMM.out] at this; omega⟩
    subst hmn
    have hmt : ((mn : Int)).toNat = mn := by omega
    rw [hmt] at HVAL HSV
    have HCK := Lib.hid hck
    have hLn : L.length = nL := hLl.trans HNL.out
    have hIn : I.length = nI := hIl.trans HNI.out
    have hm1 := HRT.out.m1
    rw [HMM.out] at hm1
    have hb1 := HRT.out.ni
    have hb2 := HRT.out.nl
    have hb3 := HRT.out.na
    rw [HNI.out] at hb1
    rw [HNL.out] at hb2
    rw [HNA.out] at hb3
    rw [hLn] at HFL
    rw [hIn] at HFI
    have HL3 := Lib.hid hL3
    have HI3 := Lib.hid hI3
    have HLL := Lib.hid hLl
    have HIL := Lib.hid hIl
    have HB := Lib.hid (And.intro hb1 (And.intro hb2 hb3))
    have hVB := valB (O := O) (L := L) (I := I) hck (HO.out hck) hLl hIl
    obtain ⟨T3, hT3⟩ : ∃ T, val3 C O L I = T := ⟨_, rfl⟩
    rw [hT3] at HVAL HSTP hVB
    have HVB := Lib.hid hVB
    have HT3 := Lib.hid hT3
    have HTL3 : Hid (T3.length = mn + 1) := Lib.hid (by rw [← hT3, val3_len, HMM.out]; rfl)
    obtain ⟨N3, hN3⟩ : ∃ N, next3 C T3 = N := ⟨_, rfl⟩
    rw [hN3] at HSTP
    have HN3 := Lib.hid hN3
    have HNL3 : Hid (N3.length = nL) := Lib.hid (by rw [← hN3, next3_len]; exact HNL.out)
    have haw2 : ∀ b : Int, 0 ≤ b ∧ b ≤ a → 0 ≤ b ∧ b ≤ 18446744073709551615 := fun b hb => ⟨hb.1, by omega⟩
    have HAW := Lib.hid haw2
    have HAW0 := Lib.hid haw
    clear hck hLl hL3 hIl hI3 hmt hLn hIn hVB hT3 hN3 h0 haw2
    go_enter Tryd.func6, Tryd.ntmps6
    go_upto_region 3 with (go_at_call 19; refine (worksT_any _ (HTC.out.below (HALL.out _ HX.out).2.2)).mono ?_; rintro e w1 ⟨rfl, hb⟩; have HXN := Lib.hid (bt HX.out (Nat.le_refl _) hb); clear HX hb c0 c1 c2 c3 c4 c5 c6 c7 c8 c9 c10 x0 x1 x2; have HX := HXN; clear HXN; obtain ⟨c0, c1, c2, c3, c4, c5, c6, c7, c8, c9, c10⟩ := rbox_of (HALL.out _ HX.out).1; obtain ⟨x0, x1, x2⟩ := trioC_of (HALL.out _ HX.out).2.1)
    go_upto_region 6 with (go_at_call 11; refine (HVAL.out _ (HALL.out _ HX.out).2.2).mono ?_; rintro e w2 ⟨hb, v1, rfl, _, hyes⟩; obtain ⟨g1, rfl, hg1, ht1⟩ := hyes (by first | rfl | trivial); have HT1 := Lib.hid ht1; clear hyes hg1 ht1; have HXN := Lib.hid (bt HX.out (Nat.le_refl _) hb); clear HX hb c0 c1 c2 c3 c4 c5 c6 c7 c8 c9 c10 x0 x1 x2; have HX := HXN; clear HXN; obtain ⟨c0, c1, c2, c3, c4, c5, c6, c7, c8, c9, c10⟩ := rbox_of (HALL.out _ HX.out).1; obtain ⟨x0, x1, x2⟩ := trioC_of (HALL.out _ HX.out).2.1)
    have HXD := Lib.hid HX.out.drew
    have HTD : Hid (Nums w2.drew g1 T3) := Lib.hid (Blk.drew HT1.out)
    clear HX HT1 c0 c1 c2 c3 c4 c5 c6 c7 c8 c9 c10 x0 x1 x2
    have HX := HXD
    have HT1 := HTD
    clear HXD HTD
    go_region_held3 (fun w' => w'.cell? ⟨w.heap.size + 1, 0, none⟩ = some (.slice sA sn sc) ∧ w'.cell? ⟨w.heap.size + 1, 1, none⟩ = some (.slice rA rn rc))
      (first | exact ⟨(trioC_of (HALL.out _ HX.out).2.1).1, (trioC_of (HALL.out _ HX.out).2.1).2.1⟩ | go_keep)
      (first
      | (go_at_call_of 26 sA; refine (HFL.out _ a (HALL.out _ HX.out).2.2 HL3.out HB.out.2.1 HAW0.out).mono ?_; rintro e w3 ⟨hb, g2, st, rfl, _, htb, hsl, hcov⟩; have HST := Lib.hid htb; have HSC := Lib.hid (And.intro hsl hcov); clear htb hsl hcov; have THT1 := Lib.hid (Blk.below HT1.out hb (Blk.lt HT1.out)); clear HT1; have HT1 := THT1; clear THT1; have HXN := Lib.hid (bt HX.out (Nat.le_refl _) hb); clear HX hb; have HX := HXN; clear HXN)
      | (go_at_call_of 26 rA; refine (HFI.out _ _ (HALL.out _ HX.out).2.2 HI3.out HB.out.1 (by obtain ⟨q0, q1⟩ := HAW0.out; omega)).mono ?_; rintro e w4 ⟨hb, g3, row, rfl, _, htb, hsl, hcov⟩; have HRW := Lib.hid htb; have HRC := Lib.hid (And.intro hsl hcov); clear htb hsl hcov; have THT1 := Lib.hid (Blk.below HT1.out hb (Blk.lt HT1.out)); clear HT1; have HT1 := THT1; clear THT1; have THST := Lib.hid (Blk.below HST.out hb (Blk.lt HST.out)); clear HST; have HST := THST; clear THST; have HXN := Lib.hid (bt HX.out (Nat.le_refl _) hb); clear HX hb; have HX := HXN; clear HXN))
    obtain ⟨HSL, HCS⟩ : st.length = nL ∧ Cov3 L st := ⟨HSC.out.1, HSC.out.2⟩
    obtain ⟨HRL2, HCR⟩ : row.length = nI ∧ Cov3 I row := ⟨HRC.out.1, HRC.out.2⟩
    have hstl : st.length = C.latches.length := by rw [HSL, HNL.out]
    have hrwl : row.length = C.inputs.length := by rw [HRL2, HNI.out]
    have HFE := Lib.hid (fitE_yes HCK.out hstl hrwl)
    have hvo := valOk (O := O) HCK.out (HO.out HCK.out) hstl hrwl
    have hcv := cover_vals (O := O) HCK.out (HO.out HCK.out) hvo HLL.out HIL.out HCS HCR
    have hcn := cover_next (O := O) HCK.out (HO.out HCK.out) hvo HLL.out HIL.out HCS HCR
    have hsv := fun (wx : World) (hb : Below w.heap.size w wx) (h1 : Tab wx g2 st) (h2 : Tab wx g3 row) => HSV.out wx (.slice (some ⟨g2, 0, none⟩) nL nL) (.slice (some ⟨g3, 0, none⟩) nI nI) st row hb (by have := tabT_row h1 (by rw [HSL]; have := HB.out.2.1; unfold maxLen; omega); rwa [HSL] at this) (by have := tabT_row h2 (by rw [HRL2]; have := HB.out.1; unfold maxLen; omega); rwa [HRL2] at this)
    have hnx := fun (wx : World) (hb : Below w.heap.size w wx) (h1 : Tab wx g2 st) (h2 : Tab wx g3 row) => HNX.out wx (.slice (some ⟨g2, 0, none⟩) nL nL) (.slice (some ⟨g3, 0, none⟩) nI nI) st row hb (by have := tabT_row h1 (by rw [HSL]; have := HB.out.2.1; unfold maxLen; omega); rwa [HSL] at this) (by have := tabT_row h2 (by rw [HRL2]; have := HB.out.1; unfold maxLen; omega); rwa [HRL2] at this)
    rw [HFE.out] at hsv hnx
    obtain ⟨T, hT⟩ : ∃ T, valF C O st row = T := ⟨_, rfl⟩
    rw [hT] at hsv hnx hcv hcn
    obtain ⟨NB, hNB⟩ : ∃ N, nextF C T = N := ⟨_, rfl⟩
    rw [hNB] at hnx
    rw [HT3.out] at hcv hcn
    have hcn2 : Cov3 N3 NB := by rw [← HN3.out, ← hNB]; exact hcn
    have HCV : Hid (∀ v, v ≤ mn → Le3 (b2i (T.getD v false)) (T3.getD v 0)) := Lib.hid (fun v hv => hcv v (by rw [HMM.out]; exact hv))
    have HCN := Lib.hid hcn2
    have HTL : Hid (T.length = mn + 1) := Lib.hid (by rw [← hT, valF_len, HMM.out]; rfl)
    have HNBL : Hid (NB.length = nL) := Lib.hid (by rw [← hNB, nextF_len]; exact HNL.out)
    have HSV2 := Lib.hid hsv
    have HNX2 := Lib.hid hnx
    clear HSL HCS HRL2 HCR hstl hrwl hvo hcv hcn hcn2 hsv hnx hT hNB HSV HNX HFE HSC HRC
    obtain ⟨c0, c1, c2, c3, c4, c5, c6, c7, c8, c9, c10⟩ := rbox_of (HALL.out _ HX.out).1; obtain ⟨x0, x1, x2⟩ := trioC_of (HALL.out _ HX.out).2.1
    go_upto_region 8 with (go_at_call 27; refine (HSV2.out _ (HALL.out _ HX.out).2.2 HST.out HRW.out).mono ?_; rintro e w5 ⟨hb, v2, rfl, _, hyes⟩; obtain ⟨g4, rfl, _, ht4⟩ := hyes (by first | rfl | trivial); have THT1 := Lib.hid (Blk.below HT1.out hb (Blk.lt HT1.out)); clear HT1; have HT1 := THT1; clear THT1; have THST := Lib.hid (Blk.below HST.out hb (Blk.lt HST.out)); clear HST; have HST := THST; clear THST; have THRW := Lib.hid (Blk.below HRW.out hb (Blk.lt HRW.out)); clear HRW; have HRW := THRW; clear THRW; have HTT := Lib.hid ht4; clear hyes ht4; have HXN := Lib.hid (bt HX.out (Nat.le_refl _) hb); clear HX hb c0 c1 c2 c3 c4 c5 c6 c7 c8 c9 c10 x0 x1 x2; have HX := HXN; clear HXN; obtain ⟨c0, c1, c2, c3, c4, c5, c6, c7, c8, c9, c10⟩ := rbox_of (HALL.out _ HX.out).1; obtain ⟨x0, x1, x2⟩ := trioC_of (HALL.out _ HX.out).2.1)
    go_upto_region 9 with (go_at_call 13; refine (HSTP.out _ (HALL.out _ HX.out).2.2).mono ?_; rintro e w6 ⟨hb, v3, rfl, _, hyes⟩; obtain ⟨g5, rfl, _, ht5⟩ := hyes (by first | rfl | trivial); have THT1 := Lib.hid (Blk.below HT1.out hb (Blk.lt HT1.out)); clear HT1; have HT1 := THT1; clear THT1; have THST := Lib.hid (Blk.below HST.out hb (Blk.lt HST.out)); clear HST; have HST := THST; clear THST; have THRW := Lib.hid (Blk.below HRW.out hb (Blk.lt HRW.out)); clear HRW; have HRW := THRW; clear THRW; have THTT := Lib.hid (Blk.below HTT.out hb (Blk.lt HTT.out)); clear HTT; have HTT := THTT; clear THTT; have HNN := Lib.hid ht5; clear hyes ht5; have HXN := Lib.hid (bt HX.out (Nat.le_refl _) hb); clear HX hb c0 c1 c2 c3 c4 c5 c6 c7 c8 c9 c10 x0 x1 x2; have HX := HXN; clear HXN; obtain ⟨c0, c1, c2, c3, c4, c5, c6, c7, c8, c9, c10⟩ := rbox_of (HALL.out _ HX.out).1; obtain ⟨x0, x1, x2⟩ := trioC_of (HALL.out _ HX.out).2.1)
    go_upto_region 10 with (go_at_call 28; refine (HNX2.out _ (HALL.out _ HX.out).2.2 HST.out HRW.out).mono ?_; rintro e w7 ⟨hb, v4, rfl, _, hyes⟩; obtain ⟨g6, rfl, _, ht6⟩ := hyes (by first | rfl | trivial); have THT1 := Lib.hid (Blk.below HT1.out hb (Blk.lt HT1.out)); clear HT1; have HT1 := THT1; clear THT1; have THTT := Lib.hid (Blk.below HTT.out hb (Blk.lt HTT.out)); clear HTT; have HTT := THTT; clear THTT; have THNN := Lib.hid (Blk.below HNN.out hb (Blk.lt HNN.out)); clear HNN; have HNN := THNN; clear THNN; have HBB := Lib.hid ht6; clear hyes ht6; have HXN := Lib.hid (bt HX.out (Nat.le_refl _) hb); clear HX hb c0 c1 c2 c3 c4 c5 c6 c7 c8 c9 c10 x0 x1 x2; have HX := HXN; clear HXN; obtain ⟨c0, c1, c2, c3, c4, c5, c6, c7, c8, c9, c10⟩ := rbox_of (HALL.out _ HX.out).1; obtain ⟨x0, x1, x2⟩ := trioC_of (HALL.out _ HX.out).2.1)
    have HALL2 : Hid (∀ wz, Below w7.heap.size w7 wz → Blk wz w.heap.size 29 #[.int .i64 mn, .slice AI nI cI, .slice AL nL cL, Vo, Vb, Vc, Vj, Vf, .slice AA nA cA, Vs, Vt] ∧ Nums wz g1 T3 ∧ Tab wz g4 T ∧ Nums wz g5 N3 ∧ Tab wz g6 NB ∧ Below w.heap.size w wz) := Lib.hid (fun wz hb => by
      have h1 := HALL.out _ (bt HX.out (Nat.le_refl _) hb)
      exact ⟨h1.1, Blk.below HT1.out hb (Blk.lt HT1.out), Blk.below HTT.out hb (Blk.lt HTT.out), Blk.below HNN.out hb (Blk.lt HNN.out), Blk.below HBB.out hb (Blk.lt HBB.out), h1.2.2⟩)
    have t0 := numsC_get HT1.out (k := 0) (by rw [HTL3.out]; omega) HVB.out.z
    have HG1 := Lib.hid (Blk.lt HT1.out)
    clear HX HT1 HST HRW HTT HNN HBB HALL HVAL HSTP HSV2 HNX2 HFL HFI x0 x1 x2
    have hqm : (((mn : Nat) : Int) + 1 != ((mn : Nat) : Int) + 1) = false := by simp
    have hmk := make_bools (mn + 1) (by omega)
    push_cast at hmk
    have HS0 : Hid (Tab (w7.alloc (.cells (madeCells #[Value.bool false] (mn + 1)) 4)) w7.heap.size (List.replicate (mn + 1) false) ∧ Below w7.heap.size w7 (w7.alloc (.cells (madeCells #[Value.bool false] (mn + 1)) 4))) := Lib.hid ⟨(by
      unfold Tab
      rw [← made_bools]
      exact Blk.new w7 4 _), (Below.refl _ _).alloc (Nat.le_refl _) _⟩
    have hmw : IntKind.i64.wrap ((mn : Int) + 1) = (mn : Int) + 1 := by simp [IntKind.wrap, IntKind.bits, IntKind.signed]; omega
    obtain ⟨z0, z1, z2, z3, z4, z5, z6, z7, z8, z9, z10⟩ := rbox_of (HALL2.out _ HS0.out.2).1
    go_upto_region 13 with (fail)
    clear c0 c1 c2 c3 c4 c5 c6 c7 c8 c9 c10 t0 hmk
    go_wp2
    go_loopg [112] nI (fun j iv wx => ∃ q : Nat, q ≤ nI ∧ j = nI - q ∧ iv = .int .i64 q ∧ Below w7.heap.size w7 wx ∧ Tab wx w7.heap.size (heldF (C.inputs.take q) (List.replicate (mn + 1) false)))
    case atStart => exact ⟨0, Nat.zero_le _, rfl, rfl, HS0.out.2, HS0.out.1⟩
    case round =>
      obtain ⟨q, hq, hgk, rfl, hbw, htb⟩ := hrel
      subst hgk
      clear z0 z1 z2 z3 z4 z5 z6 z7 z8 z9 z10 HS0
      have HBW := Lib.hid hbw
      have HTB := Lib.hid htb
      by_cases hlt : q < nI
      · obtain ⟨l, hl⟩ : ∃ l, C.inputs[q]? = some l := ⟨_, List.getElem?_eq_getElem (by rw [HNI.out]; exact hlt)⟩
        obtain ⟨b, off, e, hb, hcell⟩ := HRI.out q l hl
        subst e
        have h0 := ((HALL2.out _ hbw).2.2.2.2.2.cell (p := ⟨b, off + (q * 1 + 0), none⟩) hb).trans (hcell 0 _ rfl)
        simp only [Nat.mul_one, Nat.add_zero] at h0
        obtain ⟨hl0, hl1⟩ := HRT.out.i l (List.mem_of_getElem? hl)
        rw [HMM.out] at hl1
        have hdl : (l / 2).toNat < (heldF (C.inputs.take q) (List.replicate (mn + 1) false)).length := by rw [heldF_len, List.length_replicate]; omega
        have u1 := Tab.cell htb (getD_bool hdl)
        have u2 := Blk.frozen htb (l / 2).toNat
        have u3 := Blk.lt htb
        have HTK : Hid (C.inputs.take (q + 1) = C.inputs.take q ++ [l]) := Lib.hid (by rw [List.take_add_one, hl]; rfl)
        have hq2 := tdiv_nn (b := 2) (show 0 ≤ l by omega)
        have hq3 : 0 ≤ l / 2 := by omega
        have hq4 : l / 2 < (mn : Int) + 1 := by omega
        have hq5 : l / 2 < ((mn + 1 : Nat) : Int) := by push_cast; omega
        have hq8 : IntKind.i64.wrap (l / 2) = l / 2 := by simp [IntKind.wrap, IntKind.bits, IntKind.signed]; omega
        have hql : (q : Int) < (nI : Int) := by omega
        have hql0 : (0 : Int) ≤ (q : Int) := by omega
        clear hcell hl hdl hbw htb
        go_wp2
        go_roundg (nI - (q + 1))
        case measure => omega
        case rel =>
          refine ⟨q + 1, by omega, rfl, by go_num, HBW.out.setCell (by simp) _, ?_⟩
          rw [HTK.out, heldF_snoc]
          exact Tab.set_ HTB.out _ true
      · have HTK : Hid (C.inputs.take q = C.inputs) := Lib.hid (List.take_of_length_le (by rw [HNI.out]; omega))
        rw [HTK.out] at htb
        obtain ⟨D1, hD1⟩ : ∃ D, heldF C.inputs (List.replicate (mn + 1) false) = D := ⟨_, rfl⟩
        rw [hD1] at htb
        have HD1 := Lib.hid hD1
        have HDL1 : Hid (D1.length = mn + 1) := Lib.hid (by rw [← hD1, heldF_len, List.length_replicate])
        have HTB1 := Lib.hid htb
        have hql : ¬ (q : Int) < (nI : Int) := by omega
        obtain ⟨z0, z1, z2, z3, z4, z5, z6, z7, z8, z9, z10⟩ := rbox_of (HALL2.out _ hbw).1
        clear hD1 htb hbw HTB
        go_wp2
        go_loopg [124] nL (fun j iv wx => ∃ q : Nat, q ≤ nL ∧ j = nL - q ∧ iv = .int .i64 q ∧ Below w7.heap.size w7 wx ∧ Tab wx w7.heap.size (heldF ((C.latches.map (·.1)).take q) D1))
        case atStart => exact ⟨0, Nat.zero_le _, rfl, rfl, HBW.out, HTB1.out⟩
        case round =>
          obtain ⟨q, hq, hgk, rfl, hbw, htb⟩ := hrel
          subst hgk
          clear z0 z1 z2 z3 z4 z5 z6 z7 z8 z9 z10 HTB1 HBW
          have HBW := Lib.hid hbw
          have HTB := Lib.hid htb
          by_cases hlt : q < nL
          · obtain ⟨z, hz⟩ : ∃ z, C.latches[q]? = some z := ⟨_, List.getElem?_eq_getElem (by rw [HNL.out]; exact hlt)⟩
            obtain ⟨b, off, e, hb, hcell⟩ := HRL.out q z hz
            subst e
            have hzr := (HRT.out.l z (List.mem_of_getElem? hz)).1
            have HTK : Hid ((C.latches.map (·.1)).take (q + 1) = (C.latches.map (·.1)).take q ++ [z.1]) := Lib.hid (by rw [List.take_add_one, List.getElem?_map, hz]; rfl)
            obtain ⟨l, l1, l2⟩ := z
            obtain ⟨hl0, hl1⟩ := hzr
            simp only at hl0 hl1 HTK
            rw [HMM.out] at hl1
            have hbl := (HALL2.out _ hbw).2.2.2.2.2
            have h0 := (hbl.cell (p := ⟨b, off + (q * 3 + 0), none⟩) hb).trans (hcell 0 _ rfl)
            have h1 := (hbl.cell (p := ⟨b, off + (q * 3 + 1), none⟩) hb).trans (hcell 1 _ rfl)
            have h2 := (hbl.cell (p := ⟨b, off + (q * 3 + 2), none⟩) hb).trans (hcell 2 _ rfl)
            simp only [Nat.add_zero, ← Nat.add_assoc] at h0 h1 h2
            have hdl : (l / 2).toNat < (heldF ((C.latches.map (·.1)).take q) D1).length := by rw [heldF_len, HDL1.out]; omega
            have hta := Blk.alloc htb (.cells #[.int .i64 l, .int .i64 l1, .int .i64 l2] 55)
            have HTA := Lib.hid (show Tab _ _ _ from hta)
            have HXA : Hid (Below w7.heap.size w7 (wr.alloc (.cells #[.int .i64 l, .int .i64 l1, .int .i64 l2] 55))) := Lib.hid (hbw.alloc hbw.size _)
            have u1 := Tab.cell hta (getD_bool hdl)
            have u2 := Blk.frozen hta (l / 2).toNat
            have u3 := Blk.lt hta
            have y0 := (Blk.new wr 55 #[.int .i64 l, .int .i64 l1, .int .i64 l2]).cell 0
            simp only [List.getElem?_toArray, List.getElem?_cons_zero] at y0
            have hq2 := tdiv_nn (b := 2) (show 0 ≤ l by omega)
            have hq3 : 0 ≤ l / 2 := by omega
            have hq4 : l / 2 < (mn : Int) + 1 := by omega
            have hq5 : l / 2 < ((mn + 1 : Nat) : Int) := by push_cast; omega
            have hq8 : IntKind.i64.wrap (l / 2) = l / 2 := by simp [IntKind.wrap, IntKind.bits, IntKind.signed]; omega
            have hql : (q : Int) < (nL : Int) := by omega
            have hql0 : (0 : Int) ≤ (q : Int) := by omega
            clear hcell hz hdl hbw htb hta hbl
            go_wp2
            go_roundg (nL - (q + 1))
            case measure => omega
            case rel =>
              refine ⟨q + 1, by omega, rfl, by go_num, HXA.out.setCell (by simp) _, ?_⟩
              rw [HTK.out, heldF_snoc]
              exact Tab.set_ HTA.out _ true
          · have HTK : Hid ((C.latches.map (·.1)).take q = C.latches.map (·.1)) := Lib.hid (List.take_of_length_le (by rw [List.length_map, HNL.out]; omega))
            rw [HTK.out] at htb
            obtain ⟨D2, hD2⟩ : ∃ D, heldF (C.latches.map (·.1)) D1 = D := ⟨_, rfl⟩
            rw [hD2] at htb
            have HD2 := Lib.hid hD2
            have HLD2 : Hid (D2.length = mn + 1) := Lib.hid (by rw [← hD2, heldF_len]; exact HDL1.out)
            have HTD2 := Lib.hid htb
            have hql : ¬ (q : Int) < (nL : Int) := by omega
            obtain ⟨z0, z1, z2, z3, z4, z5, z6, z7, z8, z9, z10⟩ := rbox_of (HALL2.out _ hbw).1
            clear hD2 htb hbw HTB
            go_wp2
            go_loopg [137] nA (fun j iv wx => ∃ q : Nat, q ≤ nA ∧ j = nA - q ∧ iv = .int .i64 q ∧ Below w7.heap.size w7 wx ∧ Tab wx w7.heap.size (heldF ((C.ands.map (·.1)).take q) D2))
            case atStart => exact ⟨0, Nat.zero_le _, rfl, rfl, HBW.out, HTD2.out⟩
            case round =>
              obtain ⟨q, hq, hgk, rfl, hbw, htb⟩ := hrel
              subst hgk
              clear z0 z1 z2 z3 z4 z5 z6 z7 z8 z9 z10 HTD2 HBW
              have HBW := Lib.hid hbw
              have HTB := Lib.hid htb
              by_cases hlt : q < nA
              · obtain ⟨z, hz⟩ : ∃ z, C.ands[q]? = some z := ⟨_, List.getElem?_eq_getElem (by rw [HNA.out]; exact hlt)⟩
                obtain ⟨b, off, e, hb, hcell⟩ := HRA.out q z hz
                subst e
                have hzr := (HRT.out.a z (List.mem_of_getElem? hz)).1
                have HTK : Hid ((C.ands.map (·.1)).take (q + 1) = (C.ands.map (·.1)).take q ++ [z.1]) := Lib.hid (by rw [List.take_add_one, List.getElem?_map, hz]; rfl)
                obtain ⟨l, l1, l2⟩ := z
                obtain ⟨hl0, hl1⟩ := hzr
                simp only at hl0 hl1 HTK
                rw [HMM.out] at hl1
                have hbl := (HALL2.out _ hbw).2.2.2.2.2
                have h0 := (hbl.cell (p := ⟨b, off + (q * 3 + 0), none⟩) hb).trans (hcell 0 _ rfl)
                have h1 := (hbl.cell (p := ⟨b, off + (q * 3 + 1), none⟩) hb).trans (hcell 1 _ rfl)
                have h2 := (hbl.cell (p := ⟨b, off + (q * 3 + 2), none⟩) hb).trans (hcell 2 _ rfl)
                simp only [Nat.add_zero, ← Nat.add_assoc] at h0 h1 h2
                have hdl : (l / 2).toNat < (heldF ((C.ands.map (·.1)).take q) D2).length := by rw [heldF_len, HLD2.out]; omega
                have hta := Blk.alloc htb (.cells #[.int .i64 l, .int .i64 l1, .int .i64 l2] 57)
                have HTA := Lib.hid (show Tab _ _ _ from hta)
                have HXA : Hid (Below w7.heap.size w7 (wr.alloc (.cells #[.int .i64 l, .int .i64 l1, .int .i64 l2] 57))) := Lib.hid (hbw.alloc hbw.size _)
                have u1 := Tab.cell hta (getD_bool hdl)
                have u2 := Blk.frozen hta (l / 2).toNat
                have u3 := Blk.lt hta
                have y0 := (Blk.new wr 57 #[.int .i64 l, .int .i64 l1, .int .i64 l2]).cell 0
                simp only [List.getElem?_toArray, List.getElem?_cons_zero] at y0
                have hq2 := tdiv_nn (b := 2) (show 0 ≤ l by omega)
                have hq3 : 0 ≤ l / 2 := by omega
                have hq4 : l / 2 < (mn : Int) + 1 := by omega
                have hq5 : l / 2 < ((mn + 1 : Nat) : Int) := by push_cast; omega
                have hq8 : IntKind.i64.wrap (l / 2) = l / 2 := by simp [IntKind.wrap, IntKind.bits, IntKind.signed]; omega
                have hql : (q : Int) < (nA : Int) := by omega
                have hql0 : (0 : Int) ≤ (q : Int) := by omega
                clear hcell hz hdl hbw htb hta hbl
                go_wp2
                go_roundg (nA - (q + 1))
                case measure => omega
                case rel =>
                  refine ⟨q + 1, by omega, rfl, by go_num, HXA.out.setCell (by simp) _, ?_⟩
                  rw [HTK.out, heldF_snoc]
                  exact Tab.set_ HTA.out _ true
              · have HTK : Hid ((C.ands.map (·.1)).take q = C.ands.map (·.1)) := Lib.hid (List.take_of_length_le (by rw [List.length_map, HNA.out]; omega))
                rw [HTK.out] at htb
                obtain ⟨D3, hD3⟩ : ∃ D, heldF (C.ands.map (·.1)) D2 = D := ⟨_, rfl⟩
                rw [hD3] at htb
                have HD3 := Lib.hid hD3
                have HLD3 : Hid (D3.length = mn + 1) := Lib.hid (by rw [← hD3, heldF_len]; exact HLD2.out)
                have HTD3 := Lib.hid htb
                have hql : ¬ (q : Int) < (nA : Int) := by omega
                obtain ⟨z0, z1, z2, z3, z4, z5, z6, z7, z8, z9, z10⟩ := rbox_of (HALL2.out _ hbw).1
                clear hD3 htb hbw HTB
                go_wp2
                have HDF : Hid (∀ v, D3.getD v false = false → 2 * (v : Int) ∉ defsL C) := Lib.hid (fun v hv => held_defs HCK.out (n := mn + 1) (by rw [HMM.out]; rfl) (by rw [HD1.out, HD2.out, HD3.out]; exact hv))
                go_loopg [149] (mn + 1) (fun j iv wx => ∃ q : Nat, q ≤ mn + 1 ∧ j = mn + 1 - q ∧ iv = .int .i64 q ∧ Below w7.heap.size w7 wx ∧ Tab wx w7.heap.size D3)
                case atStart => exact ⟨0, Nat.zero_le _, rfl, rfl, HBW.out, HTD3.out⟩
                case round =>
                  obtain ⟨q, hq, hgk, rfl, hbw, htb⟩ := hrel
                  subst hgk
                  clear z0 z1 z2 z3 z4 z5 z6 z7 z8 z9 z10 HTD3 HBW
                  have HBW := Lib.hid hbw
                  have HTB := Lib.hid htb
                  by_cases hlt : q < mn + 1
                  · obtain ⟨d, hd⟩ : ∃ d, D3.getD q false = d := ⟨_, rfl⟩
                    obtain ⟨x, hx⟩ : ∃ x, T3.getD q 0 = x := ⟨_, rfl⟩
                    obtain ⟨y, hy⟩ : ∃ y, T.getD q false = y := ⟨_, rfl⟩
                    obtain ⟨_, e1, e2, _, _, _⟩ := HALL2.out _ hbw
                    have u1 := tabC_get htb (k := q) (by rw [HLD3.out]; exact hlt) hd
                    have u2 := numsC_get e1 (k := q) (by rw [HTL3.out]; exact hlt) hx
                    have u3 := tabC_get e2 (k := q) (by rw [HTL.out]; exact hlt) hy
                    have hle := HCV.out q (by omega)
                    rw [hx, hy] at hle
                    have hnd : d = false → 1 ≤ q → x = 2 := fun e h1 => by
                      rw [← hx]
                      exact HVB.out.n q h1 (by rw [HMM.out]; omega) (HDF.out q (by rw [hd]; exact e))
                    have hqi : (q : Int) < (mn : Int) + 1 := by omega
                    have hqi0 : (0 : Int) ≤ (q : Int) := by omega
                    have hqi2 : (q : Int) < ((mn + 1 : Nat) : Int) := by push_cast; omega
                    have HBD := Lib.hid (fun (wz : World) (hz : Below wr.heap.size wr wz) => And.intro (bt hbw (Nat.le_refl _) hz) (show Tab wz w7.heap.size D3 from Blk.below htb hz (Blk.lt htb)))
                    clear hd hx hy e1 e2 hbw htb
                    have v1 : w7.heap.size < wr.heap.size := Blk.lt HTB.out
                    have v2 : g1 < wr.heap.size := by obtain ⟨_, e1, _⟩ := HALL2.out _ HBW.out; exact Blk.lt e1
                    have v3 : g4 < wr.heap.size := by obtain ⟨_, _, e2, _⟩ := HALL2.out _ HBW.out; exact Blk.lt e2
                    go_upto_region 31 with (fail)
                    cases d
                    · by_cases h1 : 1 ≤ q
                      · have e := hnd rfl h1
                        subst e
                        have hqp : (0 : Int) < (q : Int) := by omega
                        have hqn : 0 < q := by omega
                        clear hnd hle
                        refine wp_region_quiet (C := fun wz => Below wr.heap.size wr wz) (by kernel_rfl) (by kernel_rfl) (Below.refl _ _).drew ?_
                        simp only
                        repeat
                          first
                            | go_big_quiet_skip
                            | (refine wpQuiet_step (fun K hK => ?_)
                               rw [if_pos (by rfl)]
                               unfold Oper.quiet
                               apply Exists.intro
                               refine And.intro (fun wx hWx => ?_) (hK _ ?_)
                               · have k1 := (hWx.cell (p := ⟨w7.heap.size, q, none⟩) v1).trans u1
                                 have k2 := (hWx.cell (p := ⟨g1, q, none⟩) v2).trans u2
                                 have k3 := (hWx.cell (p := ⟨g4, q, none⟩) v3).trans u3
                                 first
                                   | (go_simp; exact rfl)
                               clear hK K
                               try simp only [Act.put, List.setIfInBounds_toArray, List.set_cons_zero, List.set_cons_succ])
                        refine wpQuiet_nil ?_
                        intro w9 hw9
                        have HW9 := Lib.hid hw9
                        clear hw9
                        go_wp2
                        go_roundg (mn + 1 - (q + 1))
                        case measure => omega
                        case rel => exact ⟨q + 1, by omega, rfl, by go_num, (HBD.out _ HW9.out).1, (HBD.out _ HW9.out).2⟩
                      · have hqz : ¬ (0 : Int) < (q : Int) := by omega
                        have hqn : ¬ 0 < q := by omega
                        clear hnd
                        rcases hle with e | e
                        · cases y
                          · have e2 : x = 0 := e.symm
                            clear e
                            subst e2
                            refine wp_region_quiet (C := fun wz => Below wr.heap.size wr wz) (by kernel_rfl) (by kernel_rfl) (Below.refl _ _).drew ?_
                            simp only
                            repeat
                              first
                                | go_big_quiet_skip
                                | (refine wpQuiet_step (fun K hK => ?_)
                                   rw [if_pos (by rfl)]
                                   unfold Oper.quiet
                                   apply Exists.intro
                                   refine And.intro (fun wx hWx => ?_) (hK _ ?_)
                                   · have k1 := (hWx.cell (p := ⟨w7.heap.size, q, none⟩) v1).trans u1
                                     have k2 := (hWx.cell (p := ⟨g1, q, none⟩) v2).trans u2
                                     have k3 := (hWx.cell (p := ⟨g4, q, none⟩) v3).trans u3
                                     first
                                       | (go_simp; exact rfl)
                                   clear hK K
                                   try simp only [Act.put, List.setIfInBounds_toArray, List.set_cons_zero, List.set_cons_succ])
                            refine wpQuiet_nil ?_
                            intro w9 hw9
                            have HW9 := Lib.hid hw9
                            clear hw9
                            go_wp2
                            go_roundg (mn + 1 - (q + 1))
                            case measure => omega
                            case rel => exact ⟨q + 1, by omega, rfl, by go_num, (HBD.out _ HW9.out).1, (HBD.out _ HW9.out).2⟩
                          · have e2 : x = 1 := e.symm
                            clear e
                            subst e2
                            refine wp_region_quiet (C := fun wz => Below wr.heap.size wr wz) (by kernel_rfl) (by kernel_rfl) (Below.refl _ _).drew ?_
                            simp only
                            repeat
                              first
                                | go_big_quiet_skip
                                | (refine wpQuiet_step (fun K hK => ?_)
                                   rw [if_pos (by rfl)]
                                   unfold Oper.quiet
                                   apply Exists.intro
                                   refine And.intro (fun wx hWx => ?_) (hK _ ?_)
                                   · have k1 := (hWx.cell (p := ⟨w7.heap.size, q, none⟩) v1).trans u1
                                     have k2 := (hWx.cell (p := ⟨g1, q, none⟩) v2).trans u2
                                     have k3 := (hWx.cell (p := ⟨g4, q, none⟩) v3).trans u3
                                     first
                                       | (go_simp; exact rfl)
                                   clear hK K
                                   try simp only [Act.put, List.setIfInBounds_toArray, List.set_cons_zero, List.set_cons_succ])
                            refine wpQuiet_nil ?_
                            intro w9 hw9
                            have HW9 := Lib.hid hw9
                            clear hw9
                            go_wp2
                            go_roundg (mn + 1 - (q + 1))
                            case measure => omega
                            case rel => exact ⟨q + 1, by omega, rfl, by go_num, (HBD.out _ HW9.out).1, (HBD.out _ HW9.out).2⟩
                        · subst e
                          refine wp_region_quiet (C := fun wz => Below wr.heap.size wr wz) (by kernel_rfl) (by kernel_rfl) (Below.refl _ _).drew ?_
                          simp only
                          repeat
                            first
                              | go_big_quiet_skip
                              | (refine wpQuiet_step (fun K hK => ?_)
                                 rw [if_pos (by rfl)]
                                 unfold Oper.quiet
                                 apply Exists.intro
                                 refine And.intro (fun wx hWx => ?_) (hK _ ?_)
                                 · have k1 := (hWx.cell (p := ⟨w7.heap.size, q, none⟩) v1).trans u1
                                   have k2 := (hWx.cell (p := ⟨g1, q, none⟩) v2).trans u2
                                   have k3 := (hWx.cell (p := ⟨g4, q, none⟩) v3).trans u3
                                   first
                                     | (go_simp; exact rfl)
                                 clear hK K
                                 try simp only [Act.put, List.setIfInBounds_toArray, List.set_cons_zero, List.set_cons_succ])
                          refine wpQuiet_nil ?_
                          intro w9 hw9
                          have HW9 := Lib.hid hw9
                          clear hw9
                          go_wp2
                          go_roundg (mn + 1 - (q + 1))
                          case measure => omega
                          case rel => exact ⟨q + 1, by omega, rfl, by go_num, (HBD.out _ HW9.out).1, (HBD.out _ HW9.out).2⟩
                    · clear hnd
                      rcases hle with e | e
                      · cases y
                        · have e2 : x = 0 := e.symm
                          clear e
                          subst e2
                          refine wp_region_quiet (C := fun wz => Below wr.heap.size wr wz) (by kernel_rfl) (by kernel_rfl) (Below.refl _ _).drew ?_
                          simp only
                          repeat
                            first
                              | go_big_quiet_skip
                              | (refine wpQuiet_step (fun K hK => ?_)
                                 rw [if_pos (by rfl)]
                                 unfold Oper.quiet
                                 apply Exists.intro
                                 refine And.intro (fun wx hWx => ?_) (hK _ ?_)
                                 · have k1 := (hWx.cell (p := ⟨w7.heap.size, q, none⟩) v1).trans u1
                                   have k2 := (hWx.cell (p := ⟨g1, q, none⟩) v2).trans u2
                                   have k3 := (hWx.cell (p := ⟨g4, q, none⟩) v3).trans u3
                                   first
                                     | (go_simp; exact rfl)
                                 clear hK K
                                 try simp only [Act.put, List.setIfInBounds_toArray, List.set_cons_zero, List.set_cons_succ])
                          refine wpQuiet_nil ?_
                          intro w9 hw9
                          have HW9 := Lib.hid hw9
                          clear hw9
                          go_wp2
                          go_roundg (mn + 1 - (q + 1))
                          case measure => omega
                          case rel => exact ⟨q + 1, by omega, rfl, by go_num, (HBD.out _ HW9.out).1, (HBD.out _ HW9.out).2⟩
                        · have e2 : x = 1 := e.symm
                          clear e
                          subst e2
                          refine wp_region_quiet (C := fun wz => Below wr.heap.size wr wz) (by kernel_rfl) (by kernel_rfl) (Below.refl _ _).drew ?_
                          simp only
                          repeat
                            first
                              | go_big_quiet_skip
                              | (refine wpQuiet_step (fun K hK => ?_)
                                 rw [if_pos (by rfl)]
                                 unfold Oper.quiet
                                 apply Exists.intro
                                 refine And.intro (fun wx hWx => ?_) (hK _ ?_)
                                 · have k1 := (hWx.cell (p := ⟨w7.heap.size, q, none⟩) v1).trans u1
                                   have k2 := (hWx.cell (p := ⟨g1, q, none⟩) v2).trans u2
                                   have k3 := (hWx.cell (p := ⟨g4, q, none⟩) v3).trans u3
                                   first
                                     | (go_simp; exact rfl)
                                 clear hK K
                                 try simp only [Act.put, List.setIfInBounds_toArray, List.set_cons_zero, List.set_cons_succ])
                          refine wpQuiet_nil ?_
                          intro w9 hw9
                          have HW9 := Lib.hid hw9
                          clear hw9
                          go_wp2
                          go_roundg (mn + 1 - (q + 1))
                          case measure => omega
                          case rel => exact ⟨q + 1, by omega, rfl, by go_num, (HBD.out _ HW9.out).1, (HBD.out _ HW9.out).2⟩
                      · subst e
                        refine wp_region_quiet (C := fun wz => Below wr.heap.size wr wz) (by kernel_rfl) (by kernel_rfl) (Below.refl _ _).drew ?_
                        simp only
                        repeat
                          first
                            | go_big_quiet_skip
                            | (refine wpQuiet_step (fun K hK => ?_)
                               rw [if_pos (by rfl)]
                               unfold Oper.quiet
                               apply Exists.intro
                               refine And.intro (fun wx hWx => ?_) (hK _ ?_)
                               · have k1 := (hWx.cell (p := ⟨w7.heap.size, q, none⟩) v1).trans u1
                                 have k2 := (hWx.cell (p := ⟨g1, q, none⟩) v2).trans u2
                                 have k3 := (hWx.cell (p := ⟨g4, q, none⟩) v3).trans u3
                                 first
                                   | (go_simp; exact rfl)
                               clear hK K
                               try simp only [Act.put, List.setIfInBounds_toArray, List.set_cons_zero, List.set_cons_succ])
                        refine wpQuiet_nil ?_
                        intro w9 hw9
                        have HW9 := Lib.hid hw9
                        clear hw9
                        go_wp2
                        go_roundg (mn + 1 - (q + 1))
                        case measure => omega
                        case rel => exact ⟨q + 1, by omega, rfl, by go_num, (HBD.out _ HW9.out).1, (HBD.out _ HW9.out).2⟩
                  · have hql : ¬ (q : Int) < (mn : Int) + 1 := by omega
                    have hql2 : ¬ (q : Int) < ((mn + 1 : Nat) : Int) := by push_cast; omega
                    go_wp2
                    go_loopg [196] nL (fun j iv wx => ∃ q : Nat, q ≤ nL ∧ j = nL - q ∧ iv = .int .i64 q ∧ Below w7.heap.size w7 wx)
                    case atStart => exact ⟨0, Nat.zero_le _, rfl, rfl, HBW.out⟩
                    case round =>
                      obtain ⟨q, hq, hgk, rfl, hbw⟩ := hrel
                      subst hgk
                      clear HBW HTB
                      have HBW := Lib.hid hbw
                      by_cases hlt : q < nL
                      · obtain ⟨x, hx⟩ : ∃ x, N3.getD q 0 = x := ⟨_, rfl⟩
                        obtain ⟨y, hy⟩ : ∃ y, NB.getD q false = y := ⟨_, rfl⟩
                        obtain ⟨_, _, _, e1, e2, _⟩ := HALL2.out _ hbw
                        have u2 := numsC_get e1 (k := q) (by rw [HNL3.out]; exact hlt) hx
                        have u3 := tabC_get e2 (k := q) (by rw [HNBL.out]; exact hlt) hy
                        have hle := HCN.out.2 q (by rw [HNL3.out]; exact hlt)
                        rw [hx, hy] at hle
                        have hqi : (q : Int) < (nL : Int) := by omega
                        have hqi0 : (0 : Int) ≤ (q : Int) := by omega
                        have HBD := Lib.hid hbw.drew
                        clear hx hy e1 e2 hbw
                        go_upto_region 37 with (fail)
                        rcases hle with e | e
                        · cases y
                          · have e2 : x = 0 := e.symm
                            clear e
                            subst e2
                            go_region
                            go_wp2
                            go_roundg (nL - (q + 1))
                            case measure => omega
                            case rel => exact ⟨q + 1, by omega, rfl, by go_num, HBD.out⟩
                          · have e2 : x = 1 := e.symm
                            clear e
                            subst e2
                            go_region
                            go_wp2
                            go_roundg (nL - (q + 1))
                            case measure => omega
                            case rel => exact ⟨q + 1, by omega, rfl, by go_num, HBD.out⟩
                        · subst e
                          go_region
                          go_wp2
                          go_roundg (nL - (q + 1))
                          case measure => omega
                          case rel => exact ⟨q + 1, by omega, rfl, by go_num, HBD.out⟩
                      · have hql : ¬ (q : Int) < (nL : Int) := by omega
                        go_wp2
                        go_ret
                        exact ⟨rfl, (HALL2.out _ HBW.out).2.2.2.2.2⟩
  · obtain ⟨r, hr⟩ : ∃ r, fit3 C L I = r := ⟨_, rfl⟩
    rw [hr] at HVAL h0
    have hq : (r != 0) = true := by simpa using h0
    have H0 := Lib.hid h0
    clear h0 hr
    go_enter Tryd.func6, Tryd.ntmps6
    go_wp2_with (first
      | (go_at_call 19; refine (worksT_any _ (HTC.out.below (HALL.out _ HX.out).2.2)).mono ?_; rintro e w1 ⟨rfl, hb⟩; have HXN := Lib.hid (bt HX.out (Nat.le_refl _) hb); clear HX hb c0 c1 c2 c3 c4 c5 c6 c7 c8 c9 c10 x0 x1 x2; have HX := HXN; clear HXN; obtain ⟨c0, c1, c2, c3, c4, c5, c6, c7, c8, c9, c10⟩ := rbox_of (HALL.out _ HX.out).1; obtain ⟨x0, x1, x2⟩ := trioC_of (HALL.out _ HX.out).2.1)
      | (go_at_call 11; refine (HVAL.out _ (HALL.out _ HX.out).2.2).mono ?_; rintro e w2 ⟨hb, v1, rfl, hno, _⟩; obtain rfl := hno H0.out; clear hno; have HXN := Lib.hid (bt HX.out (Nat.le_refl _) hb); clear HX hb c0 c1 c2 c3 c4 c5 c6 c7 c8 c9 c10 x0 x1 x2; have HX := HXN; clear HXN; obtain ⟨c0, c1, c2, c3, c4, c5, c6, c7, c8, c9, c10⟩ := rbox_of (HALL.out _ HX.out).1; obtain ⟨x0, x1, x2⟩ := trioC_of (HALL.out _ HX.out).2.1))
    go_ret
    first | exact ⟨rfl, (HALL.out _ HX.out).2.2⟩ | exact ⟨by simp, (HALL.out _ HX.out).2.2⟩
end Go.Proofs.YtbeaicmjohlboaaDoor

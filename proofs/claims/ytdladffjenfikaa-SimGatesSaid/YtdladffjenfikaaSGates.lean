/- The walk of SimGates: for whatever circuit, state and row the statement's Go function answers true, and nothing that was there has turned. -/
import Derived.Test.YtdladffjenfikaaSimW
import Derived.Test.YtdladffjenfikaaArgR
import Derived.Test.YtdladffjenfikaaSimP
import Derived.Test.YtdladffjenfikaaSimE
namespace Go.Proofs.Ytdladffjenfikaa
open Go.RowKit

set_option maxHeartbeats 400000 in
set_option maxRecDepth 100000 in
theorem lLit_any (w : World) (v : Value) (t : List Bool) (l : Int) (hv : RowE 1 encO w v t) (h0 : 0 ≤ l) (hl : l / 2 < (t.length : Int)) (h6 : l ≤ 1000000) :
    Calls Try.prog 30 #[v, .int .i64 l] w fun e w' => e = .returned (.bool (litV t l)) ∧ w' = w := by
  obtain ⟨b, off, c, rfl, hc⟩ := lit_cell hv h0 hl
  unfold litV
  generalize t.getD (l / 2).toNat false = x at *
  have hq := tdiv_nn (b := 2) h0
  have hq0 : 0 ≤ l / 2 := by omega
  have hm : l.tmod 2 = l % 2 := Int.tmod_eq_emod_of_nonneg h0
  clear hv
  go_enter Try.func30, Try.ntmps30
  go_wp2
  go_ret
  exact ⟨rfl, rfl⟩
theorem tab_get {w : World} {g : Nat} {T : List Bool} (h : Tab w g T) {k : Nat} (hk : k < T.length) {b : Bool} (hb : T.getD k false = b) : w.cell? ⟨g, k, none⟩ = some (.bool b) := by
  have := h.cell (getD_bool hk)
  rwa [hb] at this

set_option maxHeartbeats 20000000 in
set_option maxRecDepth 100000 in
theorem simGates_walk (w : World) (V : CV) (C : Circ) (sv : Value) (st : List Bool) (rv : Value) (row : List Bool) (h : C.In w V) (ok : C.Ok) (_rm : C.Room ∧ C.Reach) (hs : RowE 1 encO w sv st) (_hsb : st.length ≤ 140737488351232) (hr : RowE 1 encO w rv row) (_hrb : row.length ≤ 140737488351232) :
    Calls Try.prog 6 #[V.val C.max, sv, rv] w fun e w' => e = .returned (.bool true) ∧ Below w.heap.size w w' := by
  obtain ⟨O, hO⟩ := ord_ex h ok
  have HVAL := Lib.hid (fun (wx : World) (hb : Below w.heap.size w wx) => Values_any wx V C sv rv st row O (h.below hb) ok (hs.below hb) (hr.below hb) hO)
  have HNEX := Lib.hid (fun (wx : World) (hb : Below w.heap.size w wx) => Next_any wx V C sv rv st row O (h.below hb) ok (hs.below hb) (hr.below hb) hO)
  have HHOL := Lib.hid (fun (wx : World) (hb : Below w.heap.size w wx) => Holds_any wx V C sv rv st row O (h.below hb) ok (hs.below hb) (hr.below hb) hO)
  obtain ⟨AI, cI, eI, _, _, rI⟩ := h.i
  obtain ⟨AL, cL, eL, _, _, rL⟩ := h.l
  obtain ⟨AC, cC, eC, _, _, rC⟩ := h.c
  obtain ⟨AA, cA, eA, _, _, rA⟩ := h.a
  obtain ⟨AS, cS, eS, _, _, rS⟩ := hs
  obtain ⟨AR, cR, eR, _, _, rR⟩ := hr
  obtain ⟨Vi, Vl, Vo, Vb, Vc, Vj, Vf, Va, Vs, Vt⟩ := V
  simp only at eI eL eC eA
  subst eI eL eC eA eS eR
  obtain ⟨m, hmm⟩ : ∃ m, C.max = m := ⟨_, rfl⟩
  obtain ⟨nI, hnI⟩ : ∃ n, C.inputs.length = n := ⟨_, rfl⟩
  obtain ⟨nL, hnL⟩ : ∃ n, C.latches.length = n := ⟨_, rfl⟩
  obtain ⟨nC, hnC⟩ : ∃ n, C.constraints.length = n := ⟨_, rfl⟩
  obtain ⟨nA, hnA⟩ : ∃ n, C.ands.length = n := ⟨_, rfl⟩
  rw [hmm, hnI, hnL, hnC, hnA] at HVAL HNEX HHOL
  rw [hmm, hnI, hnL, hnC, hnA]
  have hall : ∀ wz, Below (w.alloc (.cells #[.int .i64 m, .slice AI nI cI, .slice AL nL cL, Vo, Vb, .slice AC nC cC, Vj, Vf, .slice AA nA cA, Vs, Vt] 29)).heap.size (w.alloc (.cells #[.int .i64 m, .slice AI nI cI, .slice AL nL cL, Vo, Vb, .slice AC nC cC, Vj, Vf, .slice AA nA cA, Vs, Vt] 29)) wz → Blk wz w.heap.size 29 #[.int .i64 m, .slice AI nI cI, .slice AL nL cL, Vo, Vb, .slice AC nC cC, Vj, Vf, .slice AA nA cA, Vs, Vt] ∧ Below w.heap.size w wz := fun wz hb =>
    ⟨(Blk.new w _ _).below hb (by simp), ((Below.refl w.heap.size w).alloc (Nat.le_refl _) _).trans (hb.mono (by simp))⟩
  have HALL := Lib.hid hall
  have HX : Hid (Below (w.alloc (.cells #[.int .i64 m, .slice AI nI cI, .slice AL nL cL, Vo, Vb, .slice AC nC cC, Vj, Vf, .slice AA nA cA, Vs, Vt] 29)).heap.size (w.alloc (.cells #[.int .i64 m, .slice AI nI cI, .slice AL nL cL, Vo, Vb, .slice AC nC cC, Vj, Vf, .slice AA nA cA, Vs, Vt] 29)) (w.alloc (.cells #[.int .i64 m, .slice AI nI cI, .slice AL nL cL, Vo, Vb, .slice AC nC cC, Vj, Vf, .slice AA nA cA, Vs, Vt] 29))) := Lib.hid (Below.refl _ _)
  have HRI := Lib.hid rI
  have HRL := Lib.hid rL
  have HRC := Lib.hid rC
  have HRA := Lib.hid rA
  have HRS := Lib.hid rS
  have HRR := Lib.hid rR
  have HMM := Lib.hid hmm
  have HNI := Lib.hid hnI
  have HNL := Lib.hid hnL
  have HNC := Lib.hid hnC
  have HNA := Lib.hid hnA
  have HO := Lib.hid hO
  clear h ok rI rL rC rA rS rR hmm hnI hnL hnC hnA hall hO
  obtain ⟨c0, c1, c2, c3, c4, c5, c6, c7, c8, c9, c10⟩ := rbox_of (HALL.out _ HX.out).1
  by_cases h0 : fitE C st row = 0
  · rw [h0] at HVAL HNEX HHOL
    obtain ⟨hck, hls, hlr⟩ := fitE_ok h0
    have HRT := Lib.hid (right_of hck)
    have HVK := Lib.hid (valOk hck (HO.out hck) hls hlr)
    obtain ⟨T, hT⟩ : ∃ T, valF C O st row = T := ⟨_, rfl⟩
    obtain ⟨mn, hmn⟩ : ∃ mn : Nat, m = (mn : Int) := ⟨m.toNat, by have := (right_of hck).m0; rw [HMM.out] at this; omega⟩
    subst hmn
    have HTL : Hid (T.length = mn + 1) := Lib.hid (by rw [← hT, valF_len, HMM.out]; rfl)
    rw [hT] at HVAL HNEX HHOL HVK
    have HT0 : Hid (T.getD 0 false = false) := Lib.hid (HVK.out.n 0 (fun hm => by
      have := ((fine_of hck).d.two _ hm).1
      omega))
    have hls2 := hls.trans HNL.out
    have hlr2 := hlr.trans HNI.out
    rw [hls2, hlr2]
    rw [hls2, hlr2] at HVAL HNEX HHOL
    have HLS := Lib.hid hls2
    have HLR := Lib.hid hlr2
    have hm1 := HRT.out.m1
    rw [HMM.out] at hm1
    have hb1 := HRT.out.ni
    have hb2 := HRT.out.nl
    have hb3 := HRT.out.na
    have hb4 := HRT.out.nc
    rw [HNI.out] at hb1
    rw [HNL.out] at hb2
    rw [HNA.out] at hb3
    rw [HNC.out] at hb4
    have hmt : ((mn : Int)).toNat = mn := by omega
    rw [hmt] at HVAL
    have HNL2 : Hid ((nextF C T).length = nL) := Lib.hid (by rw [nextF_len, HNL.out])
    have HNAT := Lib.hid (fun (k : Nat) (z : Tri) (hz : C.latches[k]? = some z) => nextF_at (T := T) hz)
    have HHD : Hid (holdsF C T = C.constraints.all (litV T)) := Lib.hid rfl
    generalize nextF C T = N at *
    generalize holdsF C T = hh at *
    clear h0 hck hls hlr hT hls2 hlr2 hmt
    go_enter Try.func6, Try.ntmps6
    go_upto_region 6 with (first
      | (go_at_call 20; refine (worksS_any _).mono ?_; rintro e w1 ⟨rfl, hb⟩; have HXN := Lib.hid (bt HX.out (Nat.le_refl _) hb); clear HX hb c0 c1 c2 c3 c4 c5 c6 c7 c8 c9 c10; have HX := HXN; clear HXN; obtain ⟨c0, c1, c2, c3, c4, c5, c6, c7, c8, c9, c10⟩ := rbox_of (HALL.out _ HX.out).1)
      | (go_at_call 11; refine (HVAL.out _ (HALL.out _ HX.out).2).mono ?_; rintro e w2 ⟨hb, v1, rfl, _, hyes⟩; obtain ⟨g1, rfl, hg1, ht1⟩ := hyes (by first | rfl | trivial); have HT1 := Lib.hid ht1; clear hyes hg1 ht1; have HXN := Lib.hid (bt HX.out (Nat.le_refl _) hb); clear HX hb c0 c1 c2 c3 c4 c5 c6 c7 c8 c9 c10; have HX := HXN; clear HXN; obtain ⟨c0, c1, c2, c3, c4, c5, c6, c7, c8, c9, c10⟩ := rbox_of (HALL.out _ HX.out).1)
      | (go_at_call 13; refine (HNEX.out _ (HALL.out _ HX.out).2).mono ?_; rintro e w3 ⟨hb, v2, rfl, _, hyes⟩; obtain ⟨g2, rfl, hg2, ht2⟩ := hyes (by first | rfl | trivial); have HT2 := Lib.hid (Blk.below HT1.out hb (Blk.lt HT1.out)); have HN2 := Lib.hid ht2; clear hyes hg2 ht2; have HXN := Lib.hid (bt HX.out (Nat.le_refl _) hb); clear HX hb c0 c1 c2 c3 c4 c5 c6 c7 c8 c9 c10; have HX := HXN; clear HXN; obtain ⟨c0, c1, c2, c3, c4, c5, c6, c7, c8, c9, c10⟩ := rbox_of (HALL.out _ HX.out).1)
      | (go_at_call 15; refine (HHOL.out _ (HALL.out _ HX.out).2).mono ?_; rintro e w4 ⟨hb, v3, rfl, _, hyes⟩; obtain rfl := hyes (by first | rfl | trivial); have HT3 := Lib.hid (Blk.below HT2.out hb (Blk.lt HT2.out)); have HN3 := Lib.hid (Blk.below HN2.out hb (Blk.lt HN2.out)); clear hyes; have HXN := Lib.hid (bt HX.out (Nat.le_refl _) hb); clear HX hb c0 c1 c2 c3 c4 c5 c6 c7 c8 c9 c10; have HX := HXN; clear HXN; obtain ⟨c0, c1, c2, c3, c4, c5, c6, c7, c8, c9, c10⟩ := rbox_of (HALL.out _ HX.out).1))
    have HALL2 : Hid (∀ wz, Below w4.heap.size w4 wz → Blk wz w.heap.size 29 #[.int .i64 mn, .slice AI nI cI, .slice AL nL cL, Vo, Vb, .slice AC nC cC, Vj, Vf, .slice AA nA cA, Vs, Vt] ∧ Tab wz g1 T ∧ Tab wz g2 N ∧ Below w.heap.size w wz) := Lib.hid (fun wz hb => by
      have h1 := HALL.out _ (bt HX.out (Nat.le_refl _) hb)
      exact ⟨h1.1, Blk.below HT3.out hb (Blk.lt HT3.out), Blk.below HN3.out hb (Blk.lt HN3.out), h1.2⟩)
    have HLIT : Hid (∀ (wx : World) (l : Int), Below w4.heap.size w4 wx → 0 ≤ l → l / 2 ≤ (mn : Int) → Calls Try.prog 30 #[.slice (some ⟨g1, 0, none⟩) (mn + 1) (mn + 1), .int .i64 l] wx fun e w' => e = .returned (.bool (litV T l)) ∧ w' = wx) := Lib.hid (fun wx l hx h0 h1 => by
      have hv := tabT_row (HALL2.out _ hx).2.1 (by rw [HTL.out]; unfold maxLen; omega)
      rw [HTL.out] at hv
      exact lLit_any wx _ T l hv h0 (by rw [HTL.out]; push_cast; omega) (by omega))
    clear HX HT1 HT2 HT3 HN2 HN3 HVAL HNEX HHOL c0 c1 c2 c3 c4 c5 c6 c7 c8 c9 c10
    have HX : Hid (Below w4.heap.size w4 w4) := Lib.hid (Below.refl _ _)
    obtain ⟨c0, c1, c2, c3, c4, c5, c6, c7, c8, c9, c10⟩ := rbox_of (HALL2.out _ HX.out).1
    have t0 := tab_get (HALL2.out _ HX.out).2.1 (k := 0) (by rw [HTL.out]; omega) HT0.out
    have hqm : (((mn : Nat) : Int) + 1 != ((mn : Nat) : Int) + 1) = false := by simp
    go_wp2
    go_loopg [99] nI (fun k j wx => ∃ q : Nat, q ≤ nI ∧ k = nI - q ∧ j = .int .i64 q ∧ Below w4.heap.size w4 wx)
    case atStart => exact ⟨0, Nat.zero_le _, rfl, rfl, HX.out⟩
    case round =>
      obtain ⟨q, hq, hgk, rfl, hbw⟩ := hrel
      subst hgk
      clear HX t0 c0 c1 c2 c3 c4 c5 c6 c7 c8 c9 c10
      have HX := Lib.hid hbw
      clear hbw
      obtain ⟨c0, c1, c2, c3, c4, c5, c6, c7, c8, c9, c10⟩ := rbox_of (HALL2.out _ HX.out).1
      by_cases hlt : q < nI
      · obtain ⟨l, hl⟩ : ∃ l, C.inputs[q]? = some l := ⟨_, List.getElem?_eq_getElem (by rw [HNI.out]; exact hlt)⟩
        obtain ⟨y, hy⟩ : ∃ y, row[q]? = some y := ⟨_, List.getElem?_eq_getElem (by rw [HLR.out]; exact hlt)⟩
        obtain ⟨b, off, e, hb, hcell⟩ := HRI.out q l hl
        subst e
        obtain ⟨b2, off2, e, hb2, hcell2⟩ := HRR.out q y hy
        subst e
        have h0 := ((HALL2.out _ HX.out).2.2.2.cell (p := ⟨b, off + (q * 1 + 0), none⟩) hb).trans (hcell 0 _ rfl)
        have h1 := ((HALL2.out _ HX.out).2.2.2.cell (p := ⟨b2, off2 + (q * 1 + 0), none⟩) hb2).trans (hcell2 0 _ rfl)
        simp only [Nat.mul_one, Nat.add_zero] at h0 h1
        obtain ⟨hl0, hl1⟩ := HRT.out.i l (List.mem_of_getElem? hl)
        rw [HMM.out] at hl1
        have hval := HVK.out.i q l y hl hy
        have hv := tab_get (HALL2.out _ HX.out).2.1 (k := (l / 2).toNat) (by rw [HTL.out]; omega) hval
        have hq2 := tdiv_nn (b := 2) (show 0 ≤ l by omega)
        have hq3 : 0 ≤ l / 2 := by omega
        have hq4 : l / 2 < (mn : Int) + 1 := by omega
        have hq5 : l / 2 < ((mn + 1 : Nat) : Int) := by push_cast; omega
        have hq8 : IntKind.i64.wrap (l / 2) = l / 2 := by simp [IntKind.wrap, IntKind.bits, IntKind.signed]; omega
        have hql : (q : Int) < (nI : Int) := by omega
        have hql0 : (0 : Int) ≤ (q : Int) := by omega
        have hyy : (y != y) = false := by simp
        clear hcell hcell2 hl hy hval
        go_upto_region 13 with (fail)
        go_quiet (fail)
        go_wp2
        go_roundg (nI - (q + 1))
        case measure => omega
        case rel => exact ⟨q + 1, by omega, rfl, by go_num, below_drewN HX.out _⟩
      · have hqe : nI = q := by omega
        subst hqe
        clear hlt hq
        go_wp2
        go_loopg [118] nL (fun k j wx => ∃ q : Nat, q ≤ nL ∧ k = nL - q ∧ j = .int .i64 q ∧ Below w4.heap.size w4 wx)
        case atStart => exact ⟨0, Nat.zero_le _, rfl, rfl, HX.out⟩
        case round =>
          obtain ⟨q, hq, hgk, rfl, hbw⟩ := hrel
          subst hgk
          clear HX c0 c1 c2 c3 c4 c5 c6 c7 c8 c9 c10
          have HX := Lib.hid hbw
          clear hbw
          obtain ⟨c0, c1, c2, c3, c4, c5, c6, c7, c8, c9, c10⟩ := rbox_of (HALL2.out _ HX.out).1
          by_cases hlt : q < nL
          · obtain ⟨z, hz⟩ : ∃ z, C.latches[q]? = some z := ⟨_, List.getElem?_eq_getElem (by rw [HNL.out]; exact hlt)⟩
            obtain ⟨y, hy⟩ : ∃ y, st[q]? = some y := ⟨_, List.getElem?_eq_getElem (by rw [HLS.out]; exact hlt)⟩
            obtain ⟨b, off, e, hb, hcell⟩ := HRL.out q z hz
            subst e
            obtain ⟨b2, off2, e, hb2, hcell2⟩ := HRS.out q y hy
            subst e
            have hzr := HRT.out.l z (List.mem_of_getElem? hz)
            have hval := HVK.out.l q z y hz hy
            have hnx := HNAT.out q z hz
            obtain ⟨z0, z1, z2⟩ := z
            obtain ⟨⟨hl0, hl1⟩, ⟨hm2, hm3⟩, _⟩ := hzr
            simp only at hl0 hl1 hm2 hm3 hval hnx
            rw [HMM.out] at hl1 hm3
            have hbl := (HALL2.out _ HX.out).2.2.2
            have h0 := (hbl.cell (p := ⟨b, off + (q * 3 + 0), none⟩) hb).trans (hcell 0 _ rfl)
            have h1 := (hbl.cell (p := ⟨b, off + (q * 3 + 1), none⟩) hb).trans (hcell 1 _ rfl)
            have h2 := (hbl.cell (p := ⟨b, off + (q * 3 + 2), none⟩) hb).trans (hcell 2 _ rfl)
            simp only [Nat.add_zero, ← Nat.add_assoc] at h0 h1 h2
            have HXA : Hid (Below w4.heap.size w4 (wr.alloc (.cells #[.int .i64 z0, .int .i64 z1, .int .i64 z2] 61))) := Lib.hid (HX.out.alloc HX.out.size _)
            have h3 := ((HALL2.out _ HXA.out).2.2.2.cell (p := ⟨b2, off2 + (q * 1 + 0), none⟩) hb2).trans (hcell2 0 _ rfl)
            simp only [Nat.mul_one, Nat.add_zero] at h3
            have hv := tab_get (HALL2.out _ HXA.out).2.1 (k := (z0 / 2).toNat) (by rw [HTL.out]; omega) hval
            have hn := (HALL2.out _ HXA.out).2.2.1.cell hnx
            have hnb : Blk (wr.alloc (.cells #[.int .i64 z0, .int .i64 z1, .int .i64 z2] 61)) wr.heap.size 61 #[.int .i64 z0, .int .i64 z1, .int .i64 z2] := Blk.new wr _ _
            have y0 := hnb.cell 0
            have y1 := hnb.cell 1
            have y2 := hnb.cell 2
            simp only [List.getElem?_toArray, List.getElem?_cons_zero, List.getElem?_cons_succ] at y0 y1 y2
            have HY := Lib.hid (And.intro y0 (And.intro y1 y2))
            have hcall := fun (n : Nat) => HLIT.out _ z1 (below_drewN HXA.out n) hm2 hm3
            have HC := Lib.hid hcall
            have hq2 := tdiv_nn (b := 2) (show 0 ≤ z0 by omega)
            have hq3 : 0 ≤ z0 / 2 := by omega
            have hq4 : z0 / 2 < (mn : Int) + 1 := by omega
            have hq5 : z0 / 2 < ((mn + 1 : Nat) : Int) := by push_cast; omega
            have hq8 : IntKind.i64.wrap (z0 / 2) = z0 / 2 := by simp [IntKind.wrap, IntKind.bits, IntKind.signed]; omega
            have hql : (q : Int) < (nL : Int) := by omega
            have hql0 : (0 : Int) ≤ (q : Int) := by omega
            generalize litV T z1 = lv at *
            have hyy : (y != y) = false := by simp
            have hyl : (lv != lv) = false := by simp
            clear hcell hcell2 hz hy hval hnx hbl hnb hcall
            go_upto_region 19 with (fail)
            go_quiet ((go_at_call 30; exact Calls.quiet_of_same (HC.out _)))
            go_wp2
            go_roundg (nL - (q + 1))
            case measure => omega
            case rel => exact ⟨q + 1, by omega, rfl, by go_num, below_drewN HXA.out _⟩
          · have hqe : nL = q := by omega
            subst hqe
            clear hlt hq
            go_wp2
            go_loopg [149] nA (fun k j wx => ∃ q : Nat, q ≤ nA ∧ k = nA - q ∧ j = .int .i64 q ∧ Below w4.heap.size w4 wx)
            case atStart => exact ⟨0, Nat.zero_le _, rfl, rfl, HX.out⟩
            case round =>
              obtain ⟨q, hq, hgk, rfl, hbw⟩ := hrel
              subst hgk
              clear HX c0 c1 c2 c3 c4 c5 c6 c7 c8 c9 c10
              have HX := Lib.hid hbw
              clear hbw
              obtain ⟨c0, c1, c2, c3, c4, c5, c6, c7, c8, c9, c10⟩ := rbox_of (HALL2.out _ HX.out).1
              by_cases hlt : q < nA
              · obtain ⟨z, hz⟩ : ∃ z, C.ands[q]? = some z := ⟨_, List.getElem?_eq_getElem (by rw [HNA.out]; exact hlt)⟩
                obtain ⟨b, off, e, hb, hcell⟩ := HRA.out q z hz
                subst e
                have hzr := HRT.out.a z (List.mem_of_getElem? hz)
                have hval := HVK.out.a z (List.mem_of_getElem? hz)
                obtain ⟨z0, z1, z2⟩ := z
                obtain ⟨⟨hl0, hl1⟩, ⟨hm2, hm3⟩, ⟨hm4, hm5⟩⟩ := hzr
                simp only at hl0 hl1 hm2 hm3 hm4 hm5 hval
                rw [HMM.out] at hl1 hm3 hm5
                have hbl := (HALL2.out _ HX.out).2.2.2
                have h0 := (hbl.cell (p := ⟨b, off + (q * 3 + 0), none⟩) hb).trans (hcell 0 _ rfl)
                have h1 := (hbl.cell (p := ⟨b, off + (q * 3 + 1), none⟩) hb).trans (hcell 1 _ rfl)
                have h2 := (hbl.cell (p := ⟨b, off + (q * 3 + 2), none⟩) hb).trans (hcell 2 _ rfl)
                simp only [Nat.add_zero, ← Nat.add_assoc] at h0 h1 h2
                have HXA : Hid (Below w4.heap.size w4 (wr.alloc (.cells #[.int .i64 z0, .int .i64 z1, .int .i64 z2] 64))) := Lib.hid (HX.out.alloc HX.out.size _)
                have hv := tab_get (HALL2.out _ HXA.out).2.1 (k := (z0 / 2).toNat) (by rw [HTL.out]; omega) hval
                have hnb : Blk (wr.alloc (.cells #[.int .i64 z0, .int .i64 z1, .int .i64 z2] 64)) wr.heap.size 64 #[.int .i64 z0, .int .i64 z1, .int .i64 z2] := Blk.new wr _ _
                have y0 := hnb.cell 0
                have y1 := hnb.cell 1
                have y2 := hnb.cell 2
                simp only [List.getElem?_toArray, List.getElem?_cons_zero, List.getElem?_cons_succ] at y0 y1 y2
                have HY := Lib.hid (And.intro y0 (And.intro y1 y2))
                have hcall1 := fun (n : Nat) => HLIT.out _ z1 (below_drewN HXA.out n) hm2 hm3
                have hcall2 := fun (n : Nat) => HLIT.out _ z2 (below_drewN HXA.out n) hm4 hm5
                have hq2 := tdiv_nn (b := 2) (show 0 ≤ z0 by omega)
                have hq3 : 0 ≤ z0 / 2 := by omega
                have hq4 : z0 / 2 < (mn : Int) + 1 := by omega
                have hq5 : z0 / 2 < ((mn + 1 : Nat) : Int) := by push_cast; omega
                have hq8 : IntKind.i64.wrap (z0 / 2) = z0 / 2 := by simp [IntKind.wrap, IntKind.bits, IntKind.signed]; omega
                generalize litV T z1 = lv at *
                generalize litV T z2 = lw at *
                have HC1 := Lib.hid hcall1
                have HC2 := Lib.hid hcall2
                clear hcell hz hbl hnb hcall1 hcall2 hval
                cases lv
                · simp only [Bool.false_and] at hv
                  go_upto_region 25 with (fail)
                  go_quiet (first | (go_at_call_of 30 z1; exact Calls.quiet_of_same (HC1.out _)) | (go_at_call_of 30 z2; exact Calls.quiet_of_same (HC2.out _)))
                  all_goals go_wp2
                  all_goals go_roundg (nA - (q + 1))
                  all_goals first
                    | omega
                    | exact ⟨q + 1, by omega, rfl, by go_num, below_drewN HXA.out _⟩
                · simp only [Bool.true_and] at hv
                  have hyl : (lw != lw) = false := by simp
                  go_upto_region 25 with (fail)
                  go_quiet (first | (go_at_call_of 30 z1; exact Calls.quiet_of_same (HC1.out _)) | (go_at_call_of 30 z2; exact Calls.quiet_of_same (HC2.out _)))
                  all_goals go_wp2
                  all_goals go_roundg (nA - (q + 1))
                  all_goals first
                    | omega
                    | exact ⟨q + 1, by omega, rfl, by go_num, below_drewN HXA.out _⟩
              · have hqe : nA = q := by omega
                subst hqe
                clear hlt hq
                go_wp2
                go_loopg [19, 174] nC (fun k a j wx => ∃ q : Nat, q ≤ nC ∧ k = nC - q ∧ j = .int .i64 q ∧ a = .bool ((C.constraints.take q).all (litV T)) ∧ Below w4.heap.size w4 wx)
                case atStart => exact ⟨0, Nat.zero_le _, rfl, rfl, rfl, HX.out⟩
                case round =>
                  obtain ⟨q, hq, hgk, rfl, ha, hbw⟩ := hrel
                  subst hgk
                  clear HX c0 c1 c2 c3 c4 c5 c6 c7 c8 c9 c10
                  have HX := Lib.hid hbw
                  clear hbw
                  obtain ⟨av, hav⟩ : ∃ av, (C.constraints.take q).all (litV T) = av := ⟨_, rfl⟩
                  rw [hav] at ha
                  subst ha
                  have HAV := Lib.hid hav
                  clear hav
                  obtain ⟨c0, c1, c2, c3, c4, c5, c6, c7, c8, c9, c10⟩ := rbox_of (HALL2.out _ HX.out).1
                  by_cases hlt : q < nC
                  · obtain ⟨l, hl⟩ : ∃ l, C.constraints[q]? = some l := ⟨_, List.getElem?_eq_getElem (by rw [HNC.out]; exact hlt)⟩
                    obtain ⟨b, off, e, hb, hcell⟩ := HRC.out q l hl
                    subst e
                    have h0 := ((HALL2.out _ HX.out).2.2.2.cell (p := ⟨b, off + (q * 1 + 0), none⟩) hb).trans (hcell 0 _ rfl)
                    simp only [Nat.mul_one, Nat.add_zero] at h0
                    obtain ⟨hl0, hl1⟩ := HRT.out.c l (List.mem_of_getElem? hl)
                    rw [HMM.out] at hl1
                    have hcall := HLIT.out _ l HX.out hl0 hl1
                    have HTK : Hid ((C.constraints.take (q + 1)).all (litV T) = (av && litV T l)) := Lib.hid (by rw [List.take_add_one, hl, List.all_append, HAV.out]; simp)
                    generalize litV T l = lv at *
                    have HC := Lib.hid hcall
                    clear hcell hl hcall
                    cases av
                    · go_wp2
                      go_roundg (nC - (q + 1))
                      case measure => omega
                      case rel => exact ⟨q + 1, by omega, rfl, by go_num, by rw [HTK.out]; rfl, HX.out⟩
                    · go_wp2_with (go_at_call 30; refine HC.out.mono ?_; rintro e w6 ⟨rfl, rfl⟩)
                      go_roundg (nC - (q + 1))
                      case measure => omega
                      case rel => exact ⟨q + 1, by omega, rfl, by go_num, by rw [HTK.out]; rfl, HX.out⟩
                  · have hqe : nC = q := by omega
                    subst hqe
                    have HE : Hid (hh = av) := Lib.hid (by
                      rw [HHD.out, ← HAV.out, List.take_of_length_le (by rw [HNC.out]; exact Nat.le_refl _)])
                    clear hlt hq
                    go_wp2
                    go_ret
                    exact ⟨ret_bool (by rw [HE.out]; simp), (HALL2.out _ HX.out).2.2.2⟩
  · obtain ⟨r, hr⟩ : ∃ r, fitE C st row = r := ⟨_, rfl⟩
    rw [hr] at HVAL HNEX HHOL h0
    have hq : (r != 0) = true := by simpa using h0
    have H0 := Lib.hid h0
    clear h0 hr
    go_enter Try.func6, Try.ntmps6
    go_wp2_with (first
      | (go_at_call 20; refine (worksS_any _).mono ?_; rintro e w1 ⟨rfl, hb⟩; have HXN := Lib.hid (bt HX.out (Nat.le_refl _) hb); clear HX hb c0 c1 c2 c3 c4 c5 c6 c7 c8 c9 c10; have HX := HXN; clear HXN; obtain ⟨c0, c1, c2, c3, c4, c5, c6, c7, c8, c9, c10⟩ := rbox_of (HALL.out _ HX.out).1)
      | (go_at_call 11; refine (HVAL.out _ (HALL.out _ HX.out).2).mono ?_; rintro e w2 ⟨hb, v1, rfl, hno, _⟩; obtain rfl := hno H0.out; clear hno; have HXN := Lib.hid (bt HX.out (Nat.le_refl _) hb); clear HX hb c0 c1 c2 c3 c4 c5 c6 c7 c8 c9 c10; have HX := HXN; clear HXN; obtain ⟨c0, c1, c2, c3, c4, c5, c6, c7, c8, c9, c10⟩ := rbox_of (HALL.out _ HX.out).1)
      | (go_at_call 13; refine (HNEX.out _ (HALL.out _ HX.out).2).mono ?_; rintro e w3 ⟨hb, v2, rfl, hno, _⟩; obtain rfl := hno H0.out; clear hno; have HXN := Lib.hid (bt HX.out (Nat.le_refl _) hb); clear HX hb c0 c1 c2 c3 c4 c5 c6 c7 c8 c9 c10; have HX := HXN; clear HXN; obtain ⟨c0, c1, c2, c3, c4, c5, c6, c7, c8, c9, c10⟩ := rbox_of (HALL.out _ HX.out).1)
      | (go_at_call 15; refine (HHOL.out _ (HALL.out _ HX.out).2).mono ?_; rintro e w4 ⟨hb, v3, rfl, hno, _⟩; obtain rfl := hno H0.out; clear hno; have HXN := Lib.hid (bt HX.out (Nat.le_refl _) hb); clear HX hb c0 c1 c2 c3 c4 c5 c6 c7 c8 c9 c10; have HX := HXN; clear HXN; obtain ⟨c0, c1, c2, c3, c4, c5, c6, c7, c8, c9, c10⟩ := rbox_of (HALL.out _ HX.out).1))
    go_ret
    exact ⟨rfl, (HALL.out _ HX.out).2⟩
end Go.Proofs.Ytdladffjenfikaa

/- Encode: the contracts of the document's Model and Step. -/
import Derived.Test.YtbgdhfnfbahdhaaEncD
namespace Go.Proofs.Ytbgdhfnfbahdhaa
open Go.RowKit

theorem two_tabs (X : World) (a b : Nat) : Tab (((X.alloc (.cells (madeCells #[Value.bool false] a) 4)).alloc (.cells (madeCells #[Value.bool false] b) 4)).drew) X.heap.size (List.replicate a false) ∧ Tab (((X.alloc (.cells (madeCells #[Value.bool false] a) 4)).alloc (.cells (madeCells #[Value.bool false] b) 4)).drew) (X.heap.size + 1) (List.replicate b false) := by
  refine ⟨(Blk.alloc (new_tabE a) _).drew, ?_⟩
  have := new_tabE (w := X.alloc (.cells (madeCells #[Value.bool false] a) 4)) b
  rw [show (X.alloc (.cells (madeCells #[Value.bool false] a) 4)).heap.size = X.heap.size + 1 by simp] at this
  exact Blk.drew this
set_option maxHeartbeats 2000000 in
set_option maxRecDepth 100000 in
theorem rModel_any (w : World) (V : CV) (C : Circ) (sv rv : Value) (st row : List Bool) (O : List Int) (h : C.In w V) (ok : C.Ok) (htn : ∀ s ∈ C.comments, s.size ≤ maxLen) (hs : RowE 1 encO w sv st) (hr : RowE 1 encO w rv row) (hO : (checkR C).2 = 0 → IsOrd C O) :
    Calls Try.prog 20 #[V.val C.max, sv, rv] w fun e w' => Below w.heap.size w w' ∧ ∃ v, e = .returned (.tuple #[v, .int .i64 (fitE C st row)]) ∧ w'.ownsRow w.heap.size 4 1 v (valA C O st row).length ((valA C O st row).map Value.bool) := by
  have HB0 : Hid (Below w.heap.size w (w.alloc (.cells (V.cells C.max) 29))) := Lib.hid ((Below.refl _ _).alloc (Nat.le_refl _) _)
  have HX0 : Hid (Blk (w.alloc (.cells (V.cells C.max) 29)) w.heap.size 29 (V.cells C.max)) := Lib.hid (Blk.new w _ _)
  have HV := Lib.hid (rValues_any _ V C sv rv st row O (h.below HB0.out) ok htn (hs.below HB0.out) (hr.below HB0.out) hO)
  obtain ⟨sA, sn, sc, hse⟩ := slO_form hs
  obtain ⟨rA, rn, rc, hre⟩ := slO_form hr
  subst hse hre
  obtain ⟨f, hf⟩ : ∃ f, fitE C st row = f := ⟨_, rfl⟩
  have HFE := Lib.hid hf
  rw [hf] at HV ⊢
  have HV2 := Lib.hid (fun (h0 : f = 0) => (And.intro (valF_len C O st row) (by
    obtain ⟨hz, h1, h2⟩ := fitE_ok (hf.trans h0)
    exact And.intro (set_zero (val_zero hz (valOk hz (hO hz) h1 h2))) (And.intro (right_of hz).m0 (right_of hz).m1))))
  have HAE : Hid (f = 0 → valA C O st row = valF C O st row) := Lib.hid (fun h0 => if_pos (hf.trans h0))
  have HAN : Hid (f ≠ 0 → valA C O st row = []) := Lib.hid (fun h0 => if_neg (fun e => h0 (hf ▸ e)))
  obtain ⟨Vi, Vl, Vo, Vb, Vc, Vj, Vf, Va, Vs, Vt⟩ := V
  obtain ⟨c0, c1, c2, c3, c4, c5, c6, c7, c8, c9, c10⟩ := rbox_of HX0.out
  clear h ok hs hr hO hf htn
  generalize valF C O st row = T at *
  generalize valA C O st row = L at *
  by_cases h0 : f = 0
  · subst h0
    obtain ⟨hl, hset, m0, m1⟩ := HV2.out rfl
    obtain ⟨m, hm⟩ : ∃ m : Nat, C.max = (m : Int) := ⟨C.max.toNat, by omega⟩
    have hm2 : C.max.toNat = m := by omega
    rw [hm2] at HV hl
    have HL := Lib.hid hl
    have HSET := Lib.hid hset
    rw [HAE.out rfl]
    have hm3 : m ≤ 16384 := by omega
    clear hl hset HV2 hm hm2 m0 m1
    go_enter Try.func20, Try.ntmps20
    go_wp2_with (go_at_call 42; refine HV.out.mono ?_; rintro e w1 ⟨hb, v, rfl, _, hyes⟩; obtain ⟨g, rfl, hg, ht⟩ := hyes rfl; have HX := Lib.hid hb; have HG := Lib.hid hg; have HT := Lib.hid ht; have q0 := ht.cell (getD_bool (show 0 < T.length by rw [HL.out]; omega)); have qf := Blk.frozen ht 0; have ql := Blk.lt ht; have qn : (0 : Int) < ((m + 1 : Nat) : Int) := (by push_cast; omega); have qn2 : 0 < m + 1 := (by omega); clear hb hg ht hyes)
    go_ret2
    have ht := HT.out.set_ 0 false
    rw [HSET.out] at ht
    have hs1 : w.heap.size + 1 ≤ g := by have := HG.out; simpa using this
    refine ⟨(bt HB0.out (Nat.le_refl _) HX.out).setCell (by simp; omega) _, _, rfl, tab_ownE ht (by omega) HL.out (by simp only [maxLen]; omega)⟩
  · have hq : (f != 0) = true := by simpa using h0
    rw [HAN.out h0]
    have HN := Lib.hid h0
    clear h0
    go_enter Try.func20, Try.ntmps20
    go_wp2_with (go_at_call 42; refine HV.out.mono ?_; rintro e w1 ⟨hb, v, rfl, hno, _⟩; obtain rfl := hno HN.out; have HX := Lib.hid hb; clear hb hno)
    go_ret2
    exact ⟨bt HB0.out (Nat.le_refl _) HX.out, _, rfl, nil_own _ _⟩

set_option maxHeartbeats 8000000 in
set_option maxRecDepth 100000 in
theorem rStep_ok (w : World) (V : CV) (C : Circ) (mv : Value) (M : List Bool) (h : C.In w V) (ok : C.Ok) (htn : ∀ s ∈ C.comments, s.size ≤ maxLen) (hv : RowE 1 encO w mv M) (h0 : (checkR C).2 = 0) (h1 : M.length = C.max.toNat + 1) :
    Calls Try.prog 23 #[V.val C.max, mv] w fun e w' => Below w.heap.size w w' ∧ ∃ s r, e = .returned (.tuple #[s, r, .int .i64 0]) ∧
      w'.ownsRow w.heap.size 4 1 s (mdlS C M).length ((mdlS C M).map Value.bool) ∧ w'.ownsRow w.heap.size 4 1 r (mdlR C M).length ((mdlR C M).map Value.bool) := by
  have hrt := right_of h0
  obtain ⟨m, hm⟩ : ∃ m : Nat, C.max = (m : Int) := ⟨C.max.toNat, by have := hrt.m0; omega⟩
  have hm1 : m ≤ 16384 := by have := hrt.m1; omega
  have hM : M.length = m + 1 := by omega
  have HB0 : Hid (Below w.heap.size w (w.alloc (.cells (V.cells C.max) 29))) := Lib.hid ((Below.refl _ _).alloc (Nat.le_refl _) _)
  have HCK := Lib.hid (rCheck_any _ V C (h.below HB0.out) ok htn)
  obtain ⟨a, r, hrr⟩ : ∃ a r, checkR C = (a, r) := ⟨_, _, rfl⟩
  have hr0 : r = 0 := by rw [hrr] at h0; exact h0
  subst hr0
  rw [hrr] at HCK
  obtain ⟨AI, cI, eI, _, _, rI⟩ := h.i
  obtain ⟨AL, cL, eL, _, _, rL⟩ := h.l
  obtain ⟨MA, mc, hme, _, _, rM⟩ := hv
  obtain ⟨nI, hnI⟩ : ∃ n, C.inputs.length = n := ⟨_, rfl⟩
  obtain ⟨nL, hnL⟩ : ∃ n, C.latches.length = n := ⟨_, rfl⟩
  have hb1 := hrt.ni
  have hb2 := hrt.nl
  rw [hnI] at eI hb1
  rw [hnL] at eL hb2
  rw [hM] at hme
  obtain ⟨Vi, Vl, Vo, Vb, Vc, Vj, Vf, Va, Vs, Vt⟩ := V
  simp only at eI eL
  subst eI eL hme
  have HNX := Lib.hid ((mdlS_len C M).trans hnL)
  have HNI := Lib.hid ((mdlR_len C M).trans hnI)
  have HLA := Lib.hid (fun (z : Tri) (hz : z ∈ C.latches) => (hrt.l z hz).1)
  have HIA := Lib.hid (fun (z : Int) (hz : z ∈ C.inputs) => hrt.i z hz)
  have HML := Lib.hid hM
  have HRI := Lib.hid rI
  have HRL := Lib.hid rL
  have HRM := Lib.hid rM
  have HN1 := Lib.hid hnI
  have HN2 := Lib.hid hnL
  have hmkL := make_bools nL (by omega)
  have hmkI := make_bools nI (by omega)
  have HSA := Lib.hid (fun (k : Nat) (z : Tri) (hz : C.latches[k]? = some z) => mdlS_at (M := M) hz)
  have HRA := Lib.hid (fun (k : Nat) (z : Int) (hz : C.inputs[k]? = some z) => mdlR_at (M := M) hz)
  rw [hm] at HB0 HCK ⊢
  have HMM := Lib.hid hm
  generalize mdlS C M = ZS at *
  generalize mdlR C M = ZR at *
  have hall : ∀ wz, Below (w.alloc (.cells #[.int .i64 m, .slice AI nI cI, .slice AL nL cL, Vo, Vb, Vc, Vj, Vf, Va, Vs, Vt] 29)).heap.size (w.alloc (.cells #[.int .i64 m, .slice AI nI cI, .slice AL nL cL, Vo, Vb, Vc, Vj, Vf, Va, Vs, Vt] 29)) wz → Blk wz w.heap.size 29 #[.int .i64 m, .slice AI nI cI, .slice AL nL cL, Vo, Vb, Vc, Vj, Vf, Va, Vs, Vt] ∧ Below w.heap.size w wz := fun wz hb =>
    ⟨(Blk.new w _ _).below hb (by simp), HB0.out.trans (hb.mono (by simp))⟩
  have HALL := Lib.hid hall
  have HX : Hid (Below (w.alloc (.cells #[.int .i64 m, .slice AI nI cI, .slice AL nL cL, Vo, Vb, Vc, Vj, Vf, Va, Vs, Vt] 29)).heap.size (w.alloc (.cells #[.int .i64 m, .slice AI nI cI, .slice AL nL cL, Vo, Vb, Vc, Vj, Vf, Va, Vs, Vt] 29)) (w.alloc (.cells #[.int .i64 m, .slice AI nI cI, .slice AL nL cL, Vo, Vb, Vc, Vj, Vf, Va, Vs, Vt] 29))) := Lib.hid (Below.refl _ _)
  clear hall h ok htn h0 h1 hrt hm hM hrr rI rL rM hnI hnL HB0
  obtain ⟨c0, c1, c2, c3, c4, c5, c6, c7, c8, c9, c10⟩ := rbox_of (HALL.out _ HX.out).1
  have hmw : IntKind.i64.wrap ((m : Int) + 1) = (m : Int) + 1 := i64_in (by omega)
  go_enter Try.func23, Try.ntmps23
  go_upto_region 6 with (go_at_call 29; refine HCK.out.mono ?_; rintro e w2 ⟨rfl, hb⟩; have HXN := Lib.hid (bt HX.out (Nat.le_refl _) hb); clear HX hb c0 c1 c2 c3 c4 c5 c6 c7 c8 c9 c10; have HX := HXN; clear HXN; obtain ⟨c0, c1, c2, c3, c4, c5, c6, c7, c8, c9, c10⟩ := rbox_of (HALL.out _ HX.out).1)
  go_cut [9, 10] (fun x y wx => ∃ g1 g2 : Nat, x = .slice (some ⟨g1, 0, none⟩) nL nL ∧ y = .slice (some ⟨g2, 0, none⟩) nI nI ∧ g1 ≠ g2 ∧ w.heap.size + 1 ≤ g1 ∧ w.heap.size + 1 ≤ g2 ∧ Below (w.alloc (.cells #[.int .i64 m, .slice AI nI cI, .slice AL nL cL, Vo, Vb, Vc, Vj, Vf, Va, Vs, Vt] 29)).heap.size (w.alloc (.cells #[.int .i64 m, .slice AI nI cI, .slice AL nL cL, Vo, Vb, Vc, Vj, Vf, Va, Vs, Vt] 29)) wx ∧ Tab wx g1 (ZS.take 0 ++ List.replicate (nL - 0) false) ∧ Tab wx g2 (ZR.take 0 ++ List.replicate (nI - 0) false))
  case first =>
    have hsz : w.heap.size + 1 ≤ w2.heap.size := by have := HX.out.size; simpa using this
    have HSZ := Lib.hid hsz
    clear hsz
    obtain ⟨d0, d1, d2, d3, d4, d5, d6, d7, d8, d9, d10⟩ := rbox_of (HALL.out _ (HX.out.alloc HX.out.size (.cells (madeCells #[Value.bool false] nL) 4))).1
    obtain ⟨f0, f1, f2, f3, f4, f5, f6, f7, f8, f9, f10⟩ := rbox_of (HALL.out _ (HX.out.alloc HX.out.size (.cells (madeCells #[Value.bool false] nI) 4))).1
    go_region
    all_goals (go_wp2_with fail; go_meet)
    · exact ⟨w2.heap.size, w2.heap.size + 1, rfl, rfl, by omega, HSZ.out, by have := HSZ.out; omega, ((HX.out.alloc HX.out.size _).alloc (by have := HX.out.size; simp at this ⊢; omega) _).drew, (two_tabs w2 nL nI).1, (two_tabs w2 nL nI).2⟩
    · exact ⟨w2.heap.size + 1, w2.heap.size, rfl, rfl, by omega, by have := HSZ.out; omega, HSZ.out, ((HX.out.alloc HX.out.size _).alloc (by have := HX.out.size; simp at this ⊢; omega) _).drew, (two_tabs w2 nI nL).2, (two_tabs w2 nI nL).1⟩
  case rest =>
    obtain ⟨g1, g2, rfl, rfl, hgg, hg1, hg2, hbw, ht1, ht2⟩ := hcut
    have HG := Lib.hid (And.intro hgg (And.intro hg1 hg2))
    clear HX c0 c1 c2 c3 c4 c5 c6 c7 c8 c9 c10 hgg hg1 hg2
    have HX := Lib.hid hbw
    have HT0 := Lib.hid ht1
    have HU0 := Lib.hid ht2
    clear hbw ht1 ht2 HCK
    obtain ⟨c0, c1, c2, c3, c4, c5, c6, c7, c8, c9, c10⟩ := rbox_of (HALL.out _ HX.out).1
    go_wp2
    go_loopg [11] nL (fun k j wx => ∃ q : Nat, q ≤ nL ∧ k = nL - q ∧ j = .int .i64 q ∧ Below (w.alloc (.cells #[.int .i64 m, .slice AI nI cI, .slice AL nL cL, Vo, Vb, Vc, Vj, Vf, Va, Vs, Vt] 29)).heap.size (w.alloc (.cells #[.int .i64 m, .slice AI nI cI, .slice AL nL cL, Vo, Vb, Vc, Vj, Vf, Va, Vs, Vt] 29)) wx ∧ Tab wx g1 (ZS.take q ++ List.replicate (nL - q) false) ∧ Tab wx g2 (ZR.take 0 ++ List.replicate (nI - 0) false))
    case atStart => exact ⟨0, Nat.zero_le _, rfl, rfl, HX.out, HT0.out, HU0.out⟩
    case round =>
      obtain ⟨q, hq, hgk, rfl, hbw, htb, hub⟩ := hrel
      subst hgk
      clear HX HT0 HU0 c0 c1 c2 c3 c4 c5 c6 c7 c8 c9 c10
      have HX := Lib.hid hbw
      have HT := Lib.hid htb
      have HU := Lib.hid hub
      clear hbw htb hub
      obtain ⟨c0, c1, c2, c3, c4, c5, c6, c7, c8, c9, c10⟩ := rbox_of (HALL.out _ HX.out).1
      by_cases hlt : q < nL
      · obtain ⟨z, hz⟩ : ∃ z, C.latches[q]? = some z := ⟨_, List.getElem?_eq_getElem (by rw [HN2.out]; exact hlt)⟩
        obtain ⟨b, off, e, hb, hcell⟩ := HRL.out q z hz
        subst e
        have hzr := HLA.out z (List.mem_of_getElem? hz)
        have hval := HSA.out q z hz
        obtain ⟨z0, z1, z2⟩ := z
        simp only at hzr hval
        obtain ⟨hl0, hl1⟩ := hzr
        rw [HMM.out] at hl1
        obtain ⟨x, hx⟩ : ∃ x, M.getD (z0 / 2).toNat false = x := ⟨_, rfl⟩
        have hxm : M[(z0 / 2).toNat]? = some x := by rw [← hx]; exact getD_bool (by rw [HML.out]; omega)
        rw [hx] at hval
        obtain ⟨b2, off2, e, hb2, hcell2⟩ := HRM.out _ x hxm
        subst e
        have hbl := (HALL.out _ HX.out).2
        have h0 := (hbl.cell (p := ⟨b, off + (q * 3 + 0), none⟩) hb).trans (hcell 0 _ rfl)
        have h3 := (hbl.cell (p := ⟨b2, off2 + ((z0 / 2).toNat * 1 + 0), none⟩) hb2).trans (hcell2 0 _ rfl)
        simp only [Nat.add_zero, Nat.mul_one] at h0 h3
        have htl : q < (ZS.take q ++ List.replicate (nL - q) false).length := by rw [fillT_len HNX.out hq]; exact hlt
        have hold := HT.out.cell (getD_bool htl)
        have hfr := Blk.frozen HT.out q
        have hgb := Blk.lt HT.out
        have HV := Lib.hid hval
        have hq2 := tdiv_nn (b := 2) (show 0 ≤ z0 by omega)
        have hq3 : 0 ≤ z0 / 2 := by omega
        have hq4 : z0 / 2 < (m : Int) + 1 := by omega
        have hq5 : z0 / 2 < ((m + 1 : Nat) : Int) := by push_cast; omega
        have hq8 : IntKind.i64.wrap (z0 / 2) = z0 / 2 := by simp [IntKind.wrap, IntKind.bits, IntKind.signed]; omega
        have hql : (q : Int) < (nL : Int) := by omega
        have hql0 : (0 : Int) ≤ (q : Int) := by omega
        clear hcell hcell2 hz hval hbl htl hx hxm
        go_wp2
        go_roundg (nL - (q + 1))
        case measure => omega
        case rel =>
          refine ⟨q + 1, by omega, rfl, by go_num, HX.out.setCell (by simpa using HG.out.2.1) _, ?_, tab_farE HU.out (Ne.symm HG.out.1) _ _⟩
          rw [← fillT_set HNX.out HV.out]
          exact HT.out.set_ _ _
      · have hqe : nL = q := by omega
        subst hqe
        have hend := HT.out
        rw [fillT_end HNX.out] at hend
        have HS0 := Lib.hid hend
        clear hlt hq hend HT
        go_wp2
        go_loopg [12] nI (fun k j wx => ∃ q : Nat, q ≤ nI ∧ k = nI - q ∧ j = .int .i64 q ∧ Below (w.alloc (.cells #[.int .i64 m, .slice AI nI cI, .slice AL nL cL, Vo, Vb, Vc, Vj, Vf, Va, Vs, Vt] 29)).heap.size (w.alloc (.cells #[.int .i64 m, .slice AI nI cI, .slice AL nL cL, Vo, Vb, Vc, Vj, Vf, Va, Vs, Vt] 29)) wx ∧ Tab wx g1 ZS ∧ Tab wx g2 (ZR.take q ++ List.replicate (nI - q) false))
        case atStart => exact ⟨0, Nat.zero_le _, rfl, rfl, HX.out, HS0.out, HU.out⟩
        case round =>
          obtain ⟨q, hq, hgk, rfl, hbw, hts, htb⟩ := hrel
          subst hgk
          clear HX HU HS0 c0 c1 c2 c3 c4 c5 c6 c7 c8 c9 c10
          have HX := Lib.hid hbw
          have HT := Lib.hid htb
          have HS := Lib.hid hts
          clear hbw htb hts
          obtain ⟨c0, c1, c2, c3, c4, c5, c6, c7, c8, c9, c10⟩ := rbox_of (HALL.out _ HX.out).1
          by_cases hlt : q < nI
          · obtain ⟨z0, hz⟩ : ∃ z, C.inputs[q]? = some z := ⟨_, List.getElem?_eq_getElem (by rw [HN1.out]; exact hlt)⟩
            obtain ⟨b, off, e, hb, hcell⟩ := HRI.out q z0 hz
            subst e
            have hzr := HIA.out z0 (List.mem_of_getElem? hz)
            have hval := HRA.out q z0 hz
            obtain ⟨hl0, hl1⟩ := hzr
            rw [HMM.out] at hl1
            obtain ⟨x, hx⟩ : ∃ x, M.getD (z0 / 2).toNat false = x := ⟨_, rfl⟩
            have hxm : M[(z0 / 2).toNat]? = some x := by rw [← hx]; exact getD_bool (by rw [HML.out]; omega)
            rw [hx] at hval
            obtain ⟨b2, off2, e, hb2, hcell2⟩ := HRM.out _ x hxm
            subst e
            have hbl := (HALL.out _ HX.out).2
            have h0 := (hbl.cell (p := ⟨b, off + (q * 1 + 0), none⟩) hb).trans (hcell 0 _ rfl)
            have h3 := (hbl.cell (p := ⟨b2, off2 + ((z0 / 2).toNat * 1 + 0), none⟩) hb2).trans (hcell2 0 _ rfl)
            simp only [Nat.mul_one, Nat.add_zero] at h0 h3
            have htl : q < (ZR.take q ++ List.replicate (nI - q) false).length := by rw [fillT_len HNI.out hq]; exact hlt
            have hold := HT.out.cell (getD_bool htl)
            have hfr := Blk.frozen HT.out q
            have hgb := Blk.lt HT.out
            have HV := Lib.hid hval
            have hq2 := tdiv_nn (b := 2) (show 0 ≤ z0 by omega)
            have hq3 : 0 ≤ z0 / 2 := by omega
            have hq4 : z0 / 2 < (m : Int) + 1 := by omega
            have hq5 : z0 / 2 < ((m + 1 : Nat) : Int) := by push_cast; omega
            have hq8 : IntKind.i64.wrap (z0 / 2) = z0 / 2 := by simp [IntKind.wrap, IntKind.bits, IntKind.signed]; omega
            have hql : (q : Int) < (nI : Int) := by omega
            have hql0 : (0 : Int) ≤ (q : Int) := by omega
            clear hcell hcell2 hz hval hbl htl hx hxm
            go_wp2
            go_roundg (nI - (q + 1))
            case measure => omega
            case rel =>
              refine ⟨q + 1, by omega, rfl, by go_num, HX.out.setCell (by simpa using HG.out.2.2) _, tab_farE HS.out HG.out.1 _ _, ?_⟩
              rw [← fillT_set HNI.out HV.out]
              exact HT.out.set_ _ _
          · have hqe : nI = q := by omega
            subst hqe
            have hend := HT.out
            rw [fillT_end HNI.out] at hend
            have HTS := Lib.hid hend
            clear hlt hq hend HT
            go_wp2
            go_ret3
            exact ⟨(HALL.out _ HX.out).2, _, _, rfl, tab_ownE HS.out (by have := HG.out.2.1; omega) HNX.out (by simp only [maxLen]; omega), tab_ownE HTS.out (by have := HG.out.2.2; omega) HNI.out (by simp only [maxLen]; omega)⟩
set_option maxHeartbeats 4000000 in
set_option maxRecDepth 100000 in
theorem rStep_no (w : World) (V : CV) (C : Circ) (mv : Value) (M : List Bool) (h : C.In w V) (ok : C.Ok) (htn : ∀ s ∈ C.comments, s.size ≤ maxLen) (hv : RowE 1 encO w mv M) (h0 : mdlE C M ≠ 0) :
    Calls Try.prog 23 #[V.val C.max, mv] w fun e w' => Below w.heap.size w w' ∧ e = .returned (.tuple #[.slice none 0 0, .slice none 0 0, .int .i64 (mdlE C M)]) := by
  have HB0 : Hid (Below w.heap.size w (w.alloc (.cells (V.cells C.max) 29))) := Lib.hid ((Below.refl _ _).alloc (Nat.le_refl _) _)
  have HX0 : Hid (Blk (w.alloc (.cells (V.cells C.max) 29)) w.heap.size 29 (V.cells C.max)) := Lib.hid (Blk.new w _ _)
  have HCK := Lib.hid (rCheck_any _ V C (h.below HB0.out) ok htn)
  obtain ⟨a, r, hrr⟩ : ∃ a r, checkR C = (a, r) := ⟨_, _, rfl⟩
  have HRR : Hid ((checkR C).2 = r) := Lib.hid (by rw [hrr])
  rw [hrr] at HCK
  obtain ⟨MA, mc, hme, _, _, _⟩ := hv
  obtain ⟨k, hk⟩ : ∃ n, M.length = n := ⟨_, rfl⟩
  rw [hk] at hme
  subst hme
  by_cases hr : r = 0
  · subst hr
    obtain ⟨m, hm⟩ : ∃ m : Nat, C.max = (m : Int) := ⟨C.max.toNat, by have := (right_of HRR.out).m0; omega⟩
    have hm1 : m ≤ 16384 := by have := (right_of HRR.out).m1; omega
    have hne : ¬ M.length = C.max.toNat + 1 := fun e => h0 (mdlE_ok HRR.out e)
    rw [mdlE_not HRR.out hne]
    have hkm : ¬ (k : Int) = (m : Int) + 1 := by omega
    have hkb : ((k : Int) != (m : Int) + 1) = true := by simpa using hkm
    rw [hm] at HX0 HCK HB0 ⊢
    have hmw : IntKind.i64.wrap ((m : Int) + 1) = (m : Int) + 1 := i64_in (by omega)
    obtain ⟨Vi, Vl, Vo, Vb, Vc, Vj, Vf, Va, Vs, Vt⟩ := V
    obtain ⟨c0, c1, c2, c3, c4, c5, c6, c7, c8, c9, c10⟩ := rbox_of HX0.out
    clear h ok h0 hne hm hrr hk hkm
    go_enter Try.func23, Try.ntmps23
    go_wp2_with (go_at_call 29; refine HCK.out.mono ?_; rintro e w1 ⟨rfl, hb⟩; have HX := Lib.hid hb; clear hb c0 c1 c2 c3 c4 c5 c6 c7 c8 c9 c10; obtain ⟨c0, c1, c2, c3, c4, c5, c6, c7, c8, c9, c10⟩ := rbox_of (HX0.out.below HX.out HX0.out.lt))
    go_ret3
    exact ⟨bt HB0.out (Nat.le_refl _) HX.out, rfl⟩
  · rw [mdlE_bad (by rw [HRR.out]; exact hr), HRR.out]
    have hq : (r != 0) = true := by simpa using hr
    obtain ⟨Vi, Vl, Vo, Vb, Vc, Vj, Vf, Va, Vs, Vt⟩ := V
    obtain ⟨c0, c1, c2, c3, c4, c5, c6, c7, c8, c9, c10⟩ := rbox_of HX0.out
    clear h ok h0 hrr hk hr
    go_enter Try.func23, Try.ntmps23
    go_wp2_with (go_at_call 29; refine HCK.out.mono ?_; rintro e w1 ⟨rfl, hb⟩; have HX := Lib.hid hb; clear hb)
    go_ret3
    exact ⟨bt HB0.out (Nat.le_refl _) HX.out, rfl⟩

/-- Step's answer, whatever the model. -/
theorem rStep_any (w : World) (V : CV) (C : Circ) (mv : Value) (M : List Bool) (h : C.In w V) (ok : C.Ok) (htn : ∀ s ∈ C.comments, s.size ≤ maxLen) (hv : RowE 1 encO w mv M) :
    Calls Try.prog 23 #[V.val C.max, mv] w fun e w' => Below w.heap.size w w' ∧ ∃ s r, e = .returned (.tuple #[s, r, .int .i64 (mdlE C M)]) ∧
      w'.ownsRow w.heap.size 4 1 s (mdlSA C M).length ((mdlSA C M).map Value.bool) ∧ w'.ownsRow w.heap.size 4 1 r (mdlRA C M).length ((mdlRA C M).map Value.bool) := by
  by_cases h0 : mdlE C M = 0
  · have e1 : mdlSA C M = mdlS C M := if_pos h0
    have e2 : mdlRA C M = mdlR C M := if_pos h0
    rw [e1, e2, h0]
    have hz : (checkR C).2 = 0 := by
      refine Classical.byContradiction fun hn => ?_
      rw [mdlE_bad hn] at h0
      exact hn h0
    refine rStep_ok w V C mv M h ok htn hv hz ?_
    refine Classical.byContradiction fun hn => ?_
    rw [mdlE_not hz hn] at h0
    cases h0
  · rw [mdlS_len' C M h0, mdlR_len' C M h0]
    refine (rStep_no w V C mv M h ok htn hv h0).mono ?_
    rintro e w' ⟨hb, rfl⟩
    exact ⟨hb, _, _, rfl, nil_own _ _, nil_own _ _⟩

end Go.Proofs.Ytbgdhfnfbahdhaa

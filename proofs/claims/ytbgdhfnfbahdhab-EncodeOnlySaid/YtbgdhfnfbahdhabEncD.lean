/- Encode: the contracts of Step and Model. -/
import Derived.Test.YtbgdhfnfbahdhabEncC
import Derived.Test.YtbgdhfnfbahdhabSSteps
namespace Go.Proofs.Ytbgdhfnfbahdhab
open Go.RowKit

def mdlSA (C : Circ) (M : List Bool) : List Bool := if mdlE C M = 0 then mdlS C M else []
def mdlRA (C : Circ) (M : List Bool) : List Bool := if mdlE C M = 0 then mdlR C M else []
theorem mdlS_at {C : Circ} {M : List Bool} {k : Nat} {z : Tri} (h : C.latches[k]? = some z) : (mdlS C M)[k]? = some (M.getD (z.1 / 2).toNat false) := by simp [mdlS, List.getElem?_map, h]
theorem mdlR_at {C : Circ} {M : List Bool} {k : Nat} {z : Int} (h : C.inputs[k]? = some z) : (mdlR C M)[k]? = some (M.getD (z / 2).toNat false) := by simp [mdlR, List.getElem?_map, h]
theorem mdlE_ok {C : Circ} {M : List Bool} (h : (checkR C).2 = 0) (h1 : M.length = C.max.toNat + 1) : mdlE C M = 0 := by unfold mdlE; rw [if_pos h, if_pos h1]
theorem mdlE_not {C : Circ} {M : List Bool} (h : (checkR C).2 = 0) (h1 : ¬ M.length = C.max.toNat + 1) : mdlE C M = 4 := by unfold mdlE; rw [if_pos h, if_neg h1]
theorem mdlE_bad {C : Circ} {M : List Bool} (h : (checkR C).2 ≠ 0) : mdlE C M = (checkR C).2 := by unfold mdlE; rw [if_neg h]
theorem new_tabE {w : World} (n : Nat) : Tab (w.alloc (.cells (madeCells #[Value.bool false] n) 4)) w.heap.size (List.replicate n false) := by
  unfold Tab; rw [← made_bools]; exact Blk.new _ _ _
theorem tab_ownE {w : World} {g B n : Nat} {L : List Bool} (h : Tab w g L) (hB : B ≤ g) (hl : L.length = n) (hn : n ≤ maxLen) : w.ownsRow B 4 1 (.slice (some ⟨g, 0, none⟩) n n) L.length (L.map Value.bool) := by
  subst hl
  exact tab_ownO h hB hn
theorem tab_farE {w : World} {g k : Nat} {L : List Bool} (h : Tab w g L) (hk : g ≠ k) (i : Nat) (u : Value) : Tab (w.setCell ⟨k, i, none⟩ u) g L := Blk.far h (by simpa using hk) u

set_option maxHeartbeats 8000000 in
set_option maxRecDepth 100000 in
theorem eStep_ok (w : World) (V : CV) (C : Circ) (mv : Value) (M : List Bool) (h : C.In w V) (ok : C.Ok) (hv : RowE 1 encO w mv M) (h0 : (checkR C).2 = 0) (h1 : M.length = C.max.toNat + 1) :
    Calls Try.prog 8 #[V.val C.max, mv] w fun e w' => Below w.heap.size w w' ∧ ∃ s r, e = .returned (.tuple #[s, r, .int .i64 0]) ∧
      w'.ownsRow w.heap.size 4 1 s (mdlS C M).length ((mdlS C M).map Value.bool) ∧ w'.ownsRow w.heap.size 4 1 r (mdlR C M).length ((mdlR C M).map Value.bool) := by
  have hrt := right_of h0
  obtain ⟨m, hm⟩ : ∃ m : Nat, C.max = (m : Int) := ⟨C.max.toNat, by have := hrt.m0; omega⟩
  have hm1 : m ≤ 16384 := by have := hrt.m1; omega
  have hM : M.length = m + 1 := by omega
  have HB0 : Hid (Below w.heap.size w (w.alloc (.cells (V.cells C.max) 29))) := Lib.hid ((Below.refl _ _).alloc (Nat.le_refl _) _)
  have HCK := Lib.hid (Check_any _ V C (h.below HB0.out) ok)
  obtain ⟨a, r, hrr⟩ : ∃ a r, checkR C = (a, r) := ⟨_, _, rfl⟩
  have hr0 : r = 0 := by rw [hrr] at h0; exact h0
  subst hr0
  rw [hrr] at HCK
  obtain ⟨AI, cI, eI, _, _, rI⟩ := h.i
  obtain ⟨AL, cL, eL, _, _, rL⟩ := h.l
  obtain ⟨MA, mc, hme, _, _, rM⟩ := hv
  obtain ⟨nI, hnI⟩ : ∃ n, C.inputs.length = n := ⟨_, rfl⟩
  obtain ⟨nL, hnL⟩ : ∃ n, C.latches.length = n := ⟨_, rfl⟩
  have hb1 := hrt.ni
  have hb2 := hrt.nl
  rw [hnI] at eI hb1
  rw [hnL] at eL hb2
  rw [hM] at hme
  obtain ⟨Vi, Vl, Vo, Vb, Vc, Vj, Vf, Va, Vs, Vt⟩ := V
  simp only at eI eL
  subst eI eL hme
  have HNX := Lib.hid ((mdlS_len C M).trans hnL)
  have HNI := Lib.hid ((mdlR_len C M).trans hnI)
  have HLA := Lib.hid (fun (z : Tri) (hz : z ∈ C.latches) => (hrt.l z hz).1)
  have HIA := Lib.hid (fun (z : Int) (hz : z ∈ C.inputs) => hrt.i z hz)
  have HML := Lib.hid hM
  have HRI := Lib.hid rI
  have HRL := Lib.hid rL
  have HRM := Lib.hid rM
  have HN1 := Lib.hid hnI
  have HN2 := Lib.hid hnL
  have hmkL := make_bools nL (by omega)
  have hmkI := make_bools nI (by omega)
  have HSA := Lib.hid (fun (k : Nat) (z : Tri) (hz : C.latches[k]? = some z) => mdlS_at (M := M) hz)
  have HRA := Lib.hid (fun (k : Nat) (z : Int) (hz : C.inputs[k]? = some z) => mdlR_at (M := M) hz)
  rw [hm] at HB0 HCK ⊢
  have HMM := Lib.hid hm
  generalize mdlS C M = ZS at *
  generalize mdlR C M = ZR at *
  have HVO := Lib.hid (fun wx => varsOf_any wx ⟨.slice AI nI cI, .slice AL nL cL, Vo, Vb, Vc, Vj, Vf, Va, Vs, Vt⟩ m (by omega))
  have hall : ∀ wz, Below (w.alloc (.cells #[.int .i64 m, .slice AI nI cI, .slice AL nL cL, Vo, Vb, Vc, Vj, Vf, Va, Vs, Vt] 29)).heap.size (w.alloc (.cells #[.int .i64 m, .slice AI nI cI, .slice AL nL cL, Vo, Vb, Vc, Vj, Vf, Va, Vs, Vt] 29)) wz → Blk wz w.heap.size 29 #[.int .i64 m, .slice AI nI cI, .slice AL nL cL, Vo, Vb, Vc, Vj, Vf, Va, Vs, Vt] ∧ Below w.heap.size w wz := fun wz hb =>
    ⟨(Blk.new w _ _).below hb (by simp), HB0.out.trans (hb.mono (by simp))⟩
  have HALL := Lib.hid hall
  have HX : Hid (Below (w.alloc (.cells #[.int .i64 m, .slice AI nI cI, .slice AL nL cL, Vo, Vb, Vc, Vj, Vf, Va, Vs, Vt] 29)).heap.size (w.alloc (.cells #[.int .i64 m, .slice AI nI cI, .slice AL nL cL, Vo, Vb, Vc, Vj, Vf, Va, Vs, Vt] 29)) (w.alloc (.cells #[.int .i64 m, .slice AI nI cI, .slice AL nL cL, Vo, Vb, Vc, Vj, Vf, Va, Vs, Vt] 29))) := Lib.hid (Below.refl _ _)
  clear hall h ok h0 h1 hrt hm hM hrr rI rL rM hnI hnL HB0
  obtain ⟨c0, c1, c2, c3, c4, c5, c6, c7, c8, c9, c10⟩ := rbox_of (HALL.out _ HX.out).1
  go_enter Try.func8, Try.ntmps8
  go_upto_region 7 with (first
    | (go_at_call 12; refine HCK.out.mono ?_; rintro e w1 ⟨rfl, hb⟩; have HXN := Lib.hid (bt HX.out (Nat.le_refl _) hb); clear HX hb c0 c1 c2 c3 c4 c5 c6 c7 c8 c9 c10; have HX := HXN; clear HXN; obtain ⟨c0, c1, c2, c3, c4, c5, c6, c7, c8, c9, c10⟩ := rbox_of (HALL.out _ HX.out).1)
    | (go_at_call 16; refine (HVO.out _).mono ?_; rintro e w2 ⟨rfl, hb⟩; have HXN := Lib.hid (bt HX.out (Nat.le_refl _) hb); clear HX hb c0 c1 c2 c3 c4 c5 c6 c7 c8 c9 c10; have HX := HXN; clear HXN; obtain ⟨c0, c1, c2, c3, c4, c5, c6, c7, c8, c9, c10⟩ := rbox_of (HALL.out _ HX.out).1))
  obtain ⟨g1, hg1⟩ : ∃ g, w2.heap.size = g := ⟨_, rfl⟩
  have HT0 : Hid (Tab (w2.alloc (.cells (madeCells #[Value.bool false] nL) 4)) g1 (ZS.take 0 ++ List.replicate (nL - 0) false)) := Lib.hid (by rw [← hg1]; exact new_tabE nL)
  have HX0 := Lib.hid (HX.out.alloc HX.out.size (.cells (madeCells #[Value.bool false] nL) 4))
  have HG1 : Hid (w.heap.size + 1 ≤ g1) := Lib.hid (by rw [← hg1]; have := HX.out.size; simpa using this)
  rw [hg1]
  generalize w2.alloc (.cells (madeCells #[Value.bool false] nL) 4) = X at *
  clear HX c0 c1 c2 c3 c4 c5 c6 c7 c8 c9 c10 hg1 hmkL
  have HX := HX0
  clear HX0 HCK HVO
  obtain ⟨c0, c1, c2, c3, c4, c5, c6, c7, c8, c9, c10⟩ := rbox_of (HALL.out _ HX.out).1
  go_wp2
  go_loopg [33] nL (fun k j wx => ∃ q : Nat, q ≤ nL ∧ k = nL - q ∧ j = .int .i64 q ∧ Below (w.alloc (.cells #[.int .i64 m, .slice AI nI cI, .slice AL nL cL, Vo, Vb, Vc, Vj, Vf, Va, Vs, Vt] 29)).heap.size (w.alloc (.cells #[.int .i64 m, .slice AI nI cI, .slice AL nL cL, Vo, Vb, Vc, Vj, Vf, Va, Vs, Vt] 29)) wx ∧ Tab wx g1 (ZS.take q ++ List.replicate (nL - q) false))
  case atStart => exact ⟨0, Nat.zero_le _, rfl, rfl, HX.out, HT0.out⟩
  case round =>
    obtain ⟨q, hq, hgk, rfl, hbw, htb⟩ := hrel
    subst hgk
    clear HX HT0 c0 c1 c2 c3 c4 c5 c6 c7 c8 c9 c10
    have HX := Lib.hid hbw
    have HT := Lib.hid htb
    clear hbw htb
    obtain ⟨c0, c1, c2, c3, c4, c5, c6, c7, c8, c9, c10⟩ := rbox_of (HALL.out _ HX.out).1
    by_cases hlt : q < nL
    · obtain ⟨z, hz⟩ : ∃ z, C.latches[q]? = some z := ⟨_, List.getElem?_eq_getElem (by rw [HN2.out]; exact hlt)⟩
      obtain ⟨b, off, e, hb, hcell⟩ := HRL.out q z hz
      subst e
      have hzr := HLA.out z (List.mem_of_getElem? hz)
      have hval := HSA.out q z hz
      obtain ⟨z0, z1, z2⟩ := z
      simp only at hzr hval
      obtain ⟨hl0, hl1⟩ := hzr
      rw [HMM.out] at hl1
      obtain ⟨x, hx⟩ : ∃ x, M.getD (z0 / 2).toNat false = x := ⟨_, rfl⟩
      have hxm : M[(z0 / 2).toNat]? = some x := by rw [← hx]; exact getD_bool (by rw [HML.out]; omega)
      rw [hx] at hval
      obtain ⟨b2, off2, e, hb2, hcell2⟩ := HRM.out _ x hxm
      subst e
      have hbl := (HALL.out _ HX.out).2
      have h0 := (hbl.cell (p := ⟨b, off + (q * 3 + 0), none⟩) hb).trans (hcell 0 _ rfl)
      have h1 := (hbl.cell (p := ⟨b, off + (q * 3 + 1), none⟩) hb).trans (hcell 1 _ rfl)
      have h2 := (hbl.cell (p := ⟨b, off + (q * 3 + 2), none⟩) hb).trans (hcell 2 _ rfl)
      simp only [Nat.add_zero, ← Nat.add_assoc] at h0 h1 h2
      have HXA := Lib.hid (HX.out.alloc HX.out.size (.cells #[.int .i64 z0, .int .i64 z1, .int .i64 z2] 61))
      have h3 := ((HALL.out _ HXA.out).2.cell (p := ⟨b2, off2 + ((z0 / 2).toNat * 1 + 0), none⟩) hb2).trans (hcell2 0 _ rfl)
      simp only [Nat.mul_one, Nat.add_zero] at h3
      have HTA : Hid (Tab (wr.alloc (.cells #[.int .i64 z0, .int .i64 z1, .int .i64 z2] 61)) g1 (ZS.take q ++ List.replicate (nL - q) false)) := Lib.hid (Blk.alloc HT.out _)
      have htl : q < (ZS.take q ++ List.replicate (nL - q) false).length := by rw [fillT_len HNX.out hq]; exact hlt
      have hold := HTA.out.cell (getD_bool htl)
      have hfr := Blk.frozen HTA.out q
      have hgb := Blk.lt HTA.out
      have HV := Lib.hid hval
      have hq2 := tdiv_nn (b := 2) (show 0 ≤ z0 by omega)
      have hq3 : 0 ≤ z0 / 2 := by omega
      have hq4 : z0 / 2 < (m : Int) + 1 := by omega
      have hq5 : z0 / 2 < ((m + 1 : Nat) : Int) := by push_cast; omega
      have hq8 : IntKind.i64.wrap (z0 / 2) = z0 / 2 := by simp [IntKind.wrap, IntKind.bits, IntKind.signed]; omega
      have hql : (q : Int) < (nL : Int) := by omega
      have hql0 : (0 : Int) ≤ (q : Int) := by omega
      clear hcell hcell2 hz hval hbl htl hx hxm
      go_wp2
      go_roundg (nL - (q + 1))
      case measure => omega
      case rel =>
        refine ⟨q + 1, by omega, rfl, by go_num, HXA.out.setCell (by simpa using HG1.out) _, ?_⟩
        rw [← fillT_set HNX.out HV.out]
        exact HTA.out.set_ _ _
    · have hqe : nL = q := by omega
      subst hqe
      have hend := HT.out
      rw [fillT_end HNX.out] at hend
      have HTS := Lib.hid hend
      clear hlt hq hend HT
      go_upto_region 13 with (fail)
      obtain ⟨g2, hg2⟩ : ∃ g, wr.heap.size = g := ⟨_, rfl⟩
      have HT0 : Hid (Tab (wr.alloc (.cells (madeCells #[Value.bool false] nI) 4)) g2 (ZR.take 0 ++ List.replicate (nI - 0) false)) := Lib.hid (by rw [← hg2]; exact new_tabE nI)
      have HS0 : Hid (Tab (wr.alloc (.cells (madeCells #[Value.bool false] nI) 4)) g1 ZS) := Lib.hid (Blk.alloc HTS.out _)
      have HX0 := Lib.hid (HX.out.alloc HX.out.size (.cells (madeCells #[Value.bool false] nI) 4))
      have HG2 : Hid (w.heap.size + 1 ≤ g2 ∧ g1 < g2) := Lib.hid (by rw [← hg2]; exact ⟨by have := HX.out.size; simpa using this, Blk.lt HTS.out⟩)
      rw [hg2]
      generalize wr.alloc (.cells (madeCells #[Value.bool false] nI) 4) = X2 at *
      clear HX c0 c1 c2 c3 c4 c5 c6 c7 c8 c9 c10 hg2 hmkI HTS
      have HX := HX0
      clear HX0
      obtain ⟨c0, c1, c2, c3, c4, c5, c6, c7, c8, c9, c10⟩ := rbox_of (HALL.out _ HX.out).1
      go_wp2
      go_loopg [55] nI (fun k j wx => ∃ q : Nat, q ≤ nI ∧ k = nI - q ∧ j = .int .i64 q ∧ Below (w.alloc (.cells #[.int .i64 m, .slice AI nI cI, .slice AL nL cL, Vo, Vb, Vc, Vj, Vf, Va, Vs, Vt] 29)).heap.size (w.alloc (.cells #[.int .i64 m, .slice AI nI cI, .slice AL nL cL, Vo, Vb, Vc, Vj, Vf, Va, Vs, Vt] 29)) wx ∧ Tab wx g1 ZS ∧ Tab wx g2 (ZR.take q ++ List.replicate (nI - q) false))
      case atStart => exact ⟨0, Nat.zero_le _, rfl, rfl, HX.out, HS0.out, HT0.out⟩
      case round =>
        obtain ⟨q, hq, hgk, rfl, hbw, hts, htb⟩ := hrel
        subst hgk
        clear HX HT0 HS0 c0 c1 c2 c3 c4 c5 c6 c7 c8 c9 c10
        have HX := Lib.hid hbw
        have HT := Lib.hid htb
        have HS := Lib.hid hts
        clear hbw htb hts
        obtain ⟨c0, c1, c2, c3, c4, c5, c6, c7, c8, c9, c10⟩ := rbox_of (HALL.out _ HX.out).1
        by_cases hlt : q < nI
        · obtain ⟨z0, hz⟩ : ∃ z, C.inputs[q]? = some z := ⟨_, List.getElem?_eq_getElem (by rw [HN1.out]; exact hlt)⟩
          obtain ⟨b, off, e, hb, hcell⟩ := HRI.out q z0 hz
          subst e
          have hzr := HIA.out z0 (List.mem_of_getElem? hz)
          have hval := HRA.out q z0 hz
          obtain ⟨hl0, hl1⟩ := hzr
          rw [HMM.out] at hl1
          obtain ⟨x, hx⟩ : ∃ x, M.getD (z0 / 2).toNat false = x := ⟨_, rfl⟩
          have hxm : M[(z0 / 2).toNat]? = some x := by rw [← hx]; exact getD_bool (by rw [HML.out]; omega)
          rw [hx] at hval
          obtain ⟨b2, off2, e, hb2, hcell2⟩ := HRM.out _ x hxm
          subst e
          have hbl := (HALL.out _ HX.out).2
          have h0 := (hbl.cell (p := ⟨b, off + (q * 1 + 0), none⟩) hb).trans (hcell 0 _ rfl)
          have h3 := (hbl.cell (p := ⟨b2, off2 + ((z0 / 2).toNat * 1 + 0), none⟩) hb2).trans (hcell2 0 _ rfl)
          simp only [Nat.mul_one, Nat.add_zero] at h0 h3
          have htl : q < (ZR.take q ++ List.replicate (nI - q) false).length := by rw [fillT_len HNI.out hq]; exact hlt
          have hold := HT.out.cell (getD_bool htl)
          have hfr := Blk.frozen HT.out q
          have hgb := Blk.lt HT.out
          have HV := Lib.hid hval
          have hq2 := tdiv_nn (b := 2) (show 0 ≤ z0 by omega)
          have hq3 : 0 ≤ z0 / 2 := by omega
          have hq4 : z0 / 2 < (m : Int) + 1 := by omega
          have hq5 : z0 / 2 < ((m + 1 : Nat) : Int) := by push_cast; omega
          have hq8 : IntKind.i64.wrap (z0 / 2) = z0 / 2 := by simp [IntKind.wrap, IntKind.bits, IntKind.signed]; omega
          have hql : (q : Int) < (nI : Int) := by omega
          have hql0 : (0 : Int) ≤ (q : Int) := by omega
          clear hcell hcell2 hz hval hbl htl hx hxm
          go_wp2
          go_roundg (nI - (q + 1))
          case measure => omega
          case rel =>
            refine ⟨q + 1, by omega, rfl, by go_num, HX.out.setCell (by simpa using HG2.out.1) _, tab_farE HS.out (by have := HG2.out.2; omega) _ _, ?_⟩
            rw [← fillT_set HNI.out HV.out]
            exact HT.out.set_ _ _
        · have hqe : nI = q := by omega
          subst hqe
          have hend := HT.out
          rw [fillT_end HNI.out] at hend
          have HTS := Lib.hid hend
          clear hlt hq hend HT
          go_wp2
          go_ret3
          exact ⟨(HALL.out _ HX.out).2, _, _, rfl, tab_ownE HS.out (by have := HG1.out; omega) HNX.out (by simp only [maxLen]; omega), tab_ownE HTS.out (by have := HG2.out.1; omega) HNI.out (by simp only [maxLen]; omega)⟩

set_option maxHeartbeats 4000000 in
set_option maxRecDepth 100000 in
theorem eStep_no (w : World) (V : CV) (C : Circ) (mv : Value) (M : List Bool) (h : C.In w V) (ok : C.Ok) (hv : RowE 1 encO w mv M) (h0 : mdlE C M ≠ 0) :
    Calls Try.prog 8 #[V.val C.max, mv] w fun e w' => Below w.heap.size w w' ∧ e = .returned (.tuple #[.slice none 0 0, .slice none 0 0, .int .i64 (mdlE C M)]) := by
  have HB0 : Hid (Below w.heap.size w (w.alloc (.cells (V.cells C.max) 29))) := Lib.hid ((Below.refl _ _).alloc (Nat.le_refl _) _)
  have HX0 : Hid (Blk (w.alloc (.cells (V.cells C.max) 29)) w.heap.size 29 (V.cells C.max)) := Lib.hid (Blk.new w _ _)
  have HCK := Lib.hid (Check_any _ V C (h.below HB0.out) ok)
  obtain ⟨a, r, hrr⟩ : ∃ a r, checkR C = (a, r) := ⟨_, _, rfl⟩
  have HRR : Hid ((checkR C).2 = r) := Lib.hid (by rw [hrr])
  rw [hrr] at HCK
  obtain ⟨MA, mc, hme, _, _, _⟩ := hv
  obtain ⟨k, hk⟩ : ∃ n, M.length = n := ⟨_, rfl⟩
  rw [hk] at hme
  subst hme
  by_cases hr : r = 0
  · subst hr
    obtain ⟨m, hm⟩ : ∃ m : Nat, C.max = (m : Int) := ⟨C.max.toNat, by have := (right_of HRR.out).m0; omega⟩
    have hm1 : m ≤ 16384 := by have := (right_of HRR.out).m1; omega
    have hne : ¬ M.length = C.max.toNat + 1 := fun e => h0 (mdlE_ok HRR.out e)
    rw [mdlE_not HRR.out hne]
    have hkm : ¬ (k : Int) = (m : Int) + 1 := by omega
    have hkb : ((k : Int) != (m : Int) + 1) = true := by simpa using hkm
    rw [hm] at HX0 HCK HB0 ⊢
    have HVO := Lib.hid (fun wx => varsOf_any wx V m (by omega))
    obtain ⟨Vi, Vl, Vo, Vb, Vc, Vj, Vf, Va, Vs, Vt⟩ := V
    obtain ⟨c0, c1, c2, c3, c4, c5, c6, c7, c8, c9, c10⟩ := rbox_of HX0.out
    clear h ok h0 hne hm hrr hk hkm
    go_enter Try.func8, Try.ntmps8
    go_wp2_with (first
      | (go_at_call 12; refine HCK.out.mono ?_; rintro e w1 ⟨rfl, hb⟩; have HX := Lib.hid hb; clear hb c0 c1 c2 c3 c4 c5 c6 c7 c8 c9 c10; obtain ⟨c0, c1, c2, c3, c4, c5, c6, c7, c8, c9, c10⟩ := rbox_of (HX0.out.below HX.out HX0.out.lt))
      | (go_at_call 16; refine (HVO.out _).mono ?_; rintro e w2 ⟨rfl, hb⟩; have HX2 := Lib.hid (bt HX.out (Nat.le_refl _) hb); clear hb))
    go_ret3
    exact ⟨bt HB0.out (Nat.le_refl _) HX2.out, rfl⟩
  · rw [mdlE_bad (by rw [HRR.out]; exact hr), HRR.out]
    have hq : (r != 0) = true := by simpa using hr
    obtain ⟨Vi, Vl, Vo, Vb, Vc, Vj, Vf, Va, Vs, Vt⟩ := V
    obtain ⟨c0, c1, c2, c3, c4, c5, c6, c7, c8, c9, c10⟩ := rbox_of HX0.out
    clear h ok h0 hrr hk hr
    go_enter Try.func8, Try.ntmps8
    go_wp2_with (go_at_call 12; refine HCK.out.mono ?_; rintro e w1 ⟨rfl, hb⟩; have HX := Lib.hid hb; clear hb)
    go_ret3
    exact ⟨bt HB0.out (Nat.le_refl _) HX.out, rfl⟩

theorem mdlS_len' (C : Circ) (M : List Bool) (h : mdlE C M ≠ 0) : mdlSA C M = [] := if_neg h
theorem mdlR_len' (C : Circ) (M : List Bool) (h : mdlE C M ≠ 0) : mdlRA C M = [] := if_neg h
/-- Step's answer, whatever the model. -/
theorem eStep_any (w : World) (V : CV) (C : Circ) (mv : Value) (M : List Bool) (h : C.In w V) (ok : C.Ok) (hv : RowE 1 encO w mv M) :
    Calls Try.prog 8 #[V.val C.max, mv] w fun e w' => Below w.heap.size w w' ∧ ∃ s r, e = .returned (.tuple #[s, r, .int .i64 (mdlE C M)]) ∧
      w'.ownsRow w.heap.size 4 1 s (mdlSA C M).length ((mdlSA C M).map Value.bool) ∧ w'.ownsRow w.heap.size 4 1 r (mdlRA C M).length ((mdlRA C M).map Value.bool) := by
  by_cases h0 : mdlE C M = 0
  · have e1 : mdlSA C M = mdlS C M := if_pos h0
    have e2 : mdlRA C M = mdlR C M := if_pos h0
    rw [e1, e2, h0]
    have hz : (checkR C).2 = 0 := by
      refine Classical.byContradiction fun hn => ?_
      rw [mdlE_bad hn] at h0
      exact hn h0
    refine eStep_ok w V C mv M h ok hv hz ?_
    refine Classical.byContradiction fun hn => ?_
    rw [mdlE_not hz hn] at h0
    cases h0
  · rw [mdlS_len' C M h0, mdlR_len' C M h0]
    refine (eStep_no w V C mv M h ok hv h0).mono ?_
    rintro e w' ⟨hb, rfl⟩
    exact ⟨hb, _, _, rfl, nil_own _ _, nil_own _ _⟩

set_option maxHeartbeats 1000000 in
set_option maxRecDepth 100000 in
theorem eModel_any (w : World) (V : CV) (C : Circ) (sv rv : Value) (st row : List Bool) (O : List Int) (h : C.In w V) (ok : C.Ok) (hs : RowE 1 encO w sv st) (hr : RowE 1 encO w rv row) (hO : (checkR C).2 = 0 → IsOrd C O) :
    Calls Try.prog 9 #[V.val C.max, sv, rv] w fun e w' => Below w.heap.size w w' ∧ ∃ v, e = .returned (.tuple #[v, .int .i64 (fitE C st row)]) ∧ w'.ownsRow w.heap.size 4 1 v (valA C O st row).length ((valA C O st row).map Value.bool) := by
  have HB0 : Hid (Below w.heap.size w (w.alloc (.cells (V.cells C.max) 29))) := Lib.hid ((Below.refl _ _).alloc (Nat.le_refl _) _)
  have HX0 : Hid (Blk (w.alloc (.cells (V.cells C.max) 29)) w.heap.size 29 (V.cells C.max)) := Lib.hid (Blk.new w _ _)
  have HV := Lib.hid (Values_own (h.below HB0.out) ok (hs.below HB0.out) (hr.below HB0.out) hO)
  obtain ⟨sA, sn, sc, hse⟩ := slO_form hs
  obtain ⟨rA, rn, rc, hre⟩ := slO_form hr
  subst hse hre
  obtain ⟨Vi, Vl, Vo, Vb, Vc, Vj, Vf, Va, Vs, Vt⟩ := V
  obtain ⟨c0, c1, c2, c3, c4, c5, c6, c7, c8, c9, c10⟩ := rbox_of HX0.out
  generalize valA C O st row = L at *
  clear h ok hs hr hO
  go_enter Try.func9, Try.ntmps9
  go_wp2_with (go_at_call 11; refine HV.out.mono ?_; rintro e w1 ⟨hb, v, rfl, ho⟩; have HX := Lib.hid hb; have HO := Lib.hid ho; clear hb ho)
  go_ret2
  exact ⟨bt HB0.out (Nat.le_refl _) HX.out, v, rfl, own_le HO.out HB0.out.size⟩
end Go.Proofs.Ytbgdhfnfbahdhab

/- The walk of EncodeOnly: for whatever circuit and model the statement's Go function answers true, and nothing that was there has turned. -/
import Derived.Test.YtbgdhfnfbahdhabEncW
import Derived.Test.YtbgdhfnfbahdhabEncV
namespace Go.Proofs.Ytbgdhfnfbahdhab
open Go.RowKit

theorem litsN_ofO {n : Nat} {F : List (List Int)} (h : WfC n F) : ∀ xs ∈ F, LitsN n xs := fun xs hx => ⟨by have := (h xs hx).1; omega, (h xs hx).2⟩
theorem gates_wfO {C : Circ} {m : Nat} (h0 : (checkR C).2 = 0) (hm : C.max = (m : Int)) : WfC (m + 1) (formC C.ands) := formC_wf (by omega) (fun z hz => by
  obtain ⟨⟨a, b⟩, ⟨c, d⟩, e, f⟩ := gates_in h0 hm z hz
  exact ⟨⟨a, by push_cast; omega⟩, ⟨c, by push_cast; omega⟩, e, by push_cast; omega⟩)
theorem all_takeO {α : Type} {p : α → Bool} {xs : List α} {q : Nat} {x : α} (h : xs[q]? = some x) : (xs.take (q + 1)).all p = ((xs.take q).all p && p x) := by
  rw [List.take_add_one, h, List.all_append]; simp

set_option maxHeartbeats 20000000 in
set_option maxRecDepth 100000 in
theorem encodeOnly_walk (w : World) (V : CV) (C : Circ) (sv : Value) (M : List Bool) (h : C.In w V) (ok : C.Ok) (_rm : C.Room ∧ C.Reach) (hs : RowE 1 encO w sv M) (_hsb : M.length ≤ 140737488351232) :
    Calls Try.prog 3 #[V.val C.max, sv] w fun e w' => e = .returned (.bool true) ∧ Below w.heap.size w w' := by
  obtain ⟨O, hO⟩ := ord_ex h ok
  have HGAT := Lib.hid (fun (wx : World) (hb : Below w.heap.size w wx) => Gates_any wx V C (h.below hb) ok)
  have HMOD := Lib.hid (fun (wx : World) (hb : Below w.heap.size w wx) (v u : Value) (hv : RowE 1 encO wx v (mdlSA C M)) (hu : RowE 1 encO wx u (mdlRA C M)) => eModel_any wx V C v u (mdlSA C M) (mdlRA C M) O (h.below hb) ok hv hu hO)
  have HSTP := Lib.hid (fun (wx : World) (hb : Below w.heap.size w wx) => eStep_any wx V C sv M (h.below hb) ok (hs.below hb))
  have HS0 := Lib.hid hs
  have HO := Lib.hid hO
  have HAR := Lib.hid h.a
  obtain ⟨sA, sc, hse, _, _, rM⟩ := hs
  have HRM := Lib.hid rM
  obtain ⟨AA, ca, ea, _, _, rA⟩ := h.a
  have HRA := Lib.hid rA
  obtain ⟨nM, hnM⟩ : ∃ n, M.length = n := ⟨_, rfl⟩
  have HNM := Lib.hid hnM
  obtain ⟨nA, hnA⟩ : ∃ n, C.ands.length = n := ⟨_, rfl⟩
  have HNA := Lib.hid hnA
  rw [hnM] at hse
  rw [hnA] at ea
  obtain ⟨Vi, Vl, Vo, Vb, Vc, Vj, Vf, Va, Vs, Vt⟩ := V
  simp only at ea
  subst hse ea
  obtain ⟨mx, hmx⟩ : ∃ m, C.max = m := ⟨_, rfl⟩
  obtain ⟨a, r, hrr⟩ : ∃ a r, checkR C = (a, r) := ⟨_, _, rfl⟩
  have HRR : Hid ((checkR C).2 = r) := Lib.hid (by rw [hrr])
  have HMX := Lib.hid hmx
  rw [hmx] at HGAT HMOD HSTP
  rw [hrr] at HGAT
  rw [hmx]
  have HALL : Hid (∀ wz, Below (w.alloc (.cells #[.int .i64 mx, Vi, Vl, Vo, Vb, Vc, Vj, Vf, .slice AA nA ca, Vs, Vt] 29)).heap.size (w.alloc (.cells #[.int .i64 mx, Vi, Vl, Vo, Vb, Vc, Vj, Vf, .slice AA nA ca, Vs, Vt] 29)) wz → Blk wz w.heap.size 29 #[.int .i64 mx, Vi, Vl, Vo, Vb, Vc, Vj, Vf, .slice AA nA ca, Vs, Vt] ∧ Below w.heap.size w wz) := Lib.hid (fun wz hb =>
    ⟨(Blk.new w _ _).below hb (by simp), ((Below.refl w.heap.size w).alloc (Nat.le_refl _) _).trans (hb.mono (by simp))⟩)
  have HX : Hid (Below (w.alloc (.cells #[.int .i64 mx, Vi, Vl, Vo, Vb, Vc, Vj, Vf, .slice AA nA ca, Vs, Vt] 29)).heap.size (w.alloc (.cells #[.int .i64 mx, Vi, Vl, Vo, Vb, Vc, Vj, Vf, .slice AA nA ca, Vs, Vt] 29)) (w.alloc (.cells #[.int .i64 mx, Vi, Vl, Vo, Vb, Vc, Vj, Vf, .slice AA nA ca, Vs, Vt] 29))) := Lib.hid (Below.refl _ _)
  clear h ok hO hmx hrr rM rA hnM hnA
  obtain ⟨c0, c1, c2, c3, c4, c5, c6, c7, c8, c9, c10⟩ := rbox_of (HALL.out _ HX.out).1
  by_cases hr : r = 0
  · subst hr
    have h0 := HRR.out
    obtain ⟨m, hm⟩ : ∃ m : Nat, C.max = (m : Int) := ⟨C.max.toNat, by have := (right_of h0).m0; omega⟩
    have hmm : mx = (m : Int) := by rw [← HMX.out, hm]
    subst hmm
    have hm1 : m ≤ 16384 := by have := (right_of h0).m1; omega
    have e1 : gatesF C = formC C.ands := if_pos h0
    have e2 : varsF C = (m : Int) + 1 := by unfold varsF; rw [if_pos h0, hm]
    rw [e1, e2] at HGAT
    by_cases hl : nM = m + 1
    · subst hl
      have HWF := Lib.hid (litsN_ofO (gates_wfO h0 hm))
      have HFL : Hid ((formC C.ands).length ≤ 524288) := Lib.hid (by rw [formC_len]; have := (right_of h0).na; omega)
      have hme : mdlE C M = 0 := mdlE_ok h0 (by rw [HNM.out]; omega)
      have es : mdlSA C M = mdlS C M := if_pos hme
      have er : mdlRA C M = mdlR C M := if_pos hme
      have hfit : fitE C (mdlS C M) (mdlR C M) = 0 := fitE_yes h0 (mdlS_len C M) (mdlR_len C M)
      have e3 : valA C O (mdlS C M) (mdlR C M) = valF C O (mdlS C M) (mdlR C M) := if_pos hfit
      have hvo := valOk h0 (HO.out h0) (mdlS_len C M) (mdlR_len C M)
      obtain ⟨T, hT⟩ : ∃ T, valF C O (mdlS C M) (mdlR C M) = T := ⟨_, rfl⟩
      have HTL : Hid (T.length = m + 1) := Lib.hid (by rw [← hT, valF_len]; omega)
      have HIFF : Hid (holdsC M (formC C.ands) = (!M.getD 0 false && C.ands.all fun z => T.getD (z.1 / 2).toNat false == M.getD (z.1 / 2).toNat false)) := Lib.hid (only_iff h0 (HO.out h0) (hT ▸ hvo))
      rw [es, er, hfit, e3, hT] at HMOD
      rw [hme, es, er] at HSTP
      have HHOL := Lib.hid (fun (wx : World) (v : Value) (hv : Lists wx v (formC C.ands)) (hb : Below w.heap.size w wx) => cHolds_any wx v _ (formC C.ands) M (m + 1) (by omega) hv HFL.out HWF.out (HS0.out.below hb) HNM.out)
      have hmc : (((m + 1 : Nat) : Int)) = (m : Int) + 1 := by push_cast; rfl
      rw [hmc] at HHOL
      have HZ := Lib.hid (gates_in h0 hm)
      have hna : nA ≤ 16384 := by rw [← HNA.out]; exact (right_of h0).na
      obtain ⟨hold, hho⟩ : ∃ b, holdsC M (formC C.ands) = b := ⟨_, rfl⟩
      rw [hho] at HHOL HIFF
      generalize formC C.ands = F at *
      generalize mdlS C M = ZS at *
      generalize mdlR C M = ZR at *
      obtain ⟨b0, hb0⟩ : ∃ b, M[0]? = some b := ⟨_, List.getElem?_eq_getElem (by rw [HNM.out]; omega)⟩
      have HM0 : Hid (M.getD 0 false = b0) := Lib.hid (by rw [List.getD_eq_getElem?_getD, hb0]; rfl)
      obtain ⟨mb, mo, hme2, hmb, hmc2⟩ := HRM.out 0 b0 hb0
      have hm0 := hmc2 0 _ rfl
      simp only [Nat.zero_mul, Nat.add_zero] at hm0
      subst hme2
      have HMB := Lib.hid (And.intro hmb hm0)
      have hnn : (((m + 1 : Nat) : Int) != (m : Int) + 1) = false := by push_cast; simp
      have hnn2 : ((m + 1 != m + 1)) = false := by simp
      have hnn3 : (((m + 1 : Nat) : Int) != ((m + 1 : Nat) : Int)) = false := by simp
      clear h0 hm hvo e1 e2 e3 es er hT hmc hho hfit hme hb0 hmb hmc2 hm0
      go_enter Try.func3, Try.ntmps3
      go_upto_region 3 with (go_at_call 5; refine (worksE_any _).mono ?_; rintro e w1 ⟨rfl, hb⟩; have HXN := Lib.hid (bt HX.out (Nat.le_refl _) hb); clear HX hb c0 c1 c2 c3 c4 c5 c6 c7 c8 c9 c10; have HX := HXN; clear HXN; obtain ⟨c0, c1, c2, c3, c4, c5, c6, c7, c8, c9, c10⟩ := rbox_of (HALL.out _ HX.out).1)
      go_upto_region 4 with (go_at_call 6; refine (HGAT.out _ (HALL.out _ HX.out).2).mono ?_; rintro e w2 ⟨hb, v, us, rfl, hc⟩; obtain ⟨fA, fc, hfe⟩ := own_slice_k hc.own; subst hfe; have HF := Lib.hid hc.lists; clear hc; have HXN := Lib.hid (bt HX.out (Nat.le_refl _) hb); clear HX hb c0 c1 c2 c3 c4 c5 c6 c7 c8 c9 c10; have HX := HXN; clear HXN; obtain ⟨c0, c1, c2, c3, c4, c5, c6, c7, c8, c9, c10⟩ := rbox_of (HALL.out _ HX.out).1)
      have HFB := Lib.hid (Blk.new w2 34 #[.int .i64 ((m : Int) + 1), .slice fA us.length fc])
      have HFN := Lib.hid (HF.out.below ((Below.refl _ _).alloc (Nat.le_refl _) (.cells #[.int .i64 ((m : Int) + 1), .slice fA us.length fc] 34)))
      have HXN := Lib.hid (HX.out.alloc HX.out.size (.cells #[.int .i64 ((m : Int) + 1), .slice fA us.length fc] 34))
      clear HX HF c0 c1 c2 c3 c4 c5 c6 c7 c8 c9 c10
      have HX := HXN
      have HF := HFN
      clear HXN HFN
      obtain ⟨c0, c1, c2, c3, c4, c5, c6, c7, c8, c9, c10⟩ := rbox_of (HALL.out _ HX.out).1
      have f0 := HFB.out.cell 0
      have f1 := HFB.out.cell 1
      simp only [List.getElem?_toArray, List.getElem?_cons_zero, List.getElem?_cons_succ] at f0 f1
      go_upto_region 7 with (go_at_call 7; refine (HHOL.out _ _ HF.out (HALL.out _ HX.out).2).mono ?_; rintro e w4 ⟨⟨ix, rfl⟩, hb⟩; have HXN := Lib.hid (bt HX.out (Nat.le_refl _) hb); clear HX hb c0 c1 c2 c3 c4 c5 c6 c7 c8 c9 c10; have HX := HXN; clear HXN; obtain ⟨c0, c1, c2, c3, c4, c5, c6, c7, c8, c9, c10⟩ := rbox_of (HALL.out _ HX.out).1; clear HF HFB f0 f1)
      go_upto_region 8 with (go_at_call 8; refine (HSTP.out _ (HALL.out _ HX.out).2).mono ?_; rintro e w5 ⟨hb, s, u, rfl, ho, ho2⟩; obtain ⟨gA, gc, hve⟩ := own_slice1 ho; obtain ⟨hA, hc, hve2⟩ := own_slice1 ho2; subst hve hve2; have HS := Lib.hid (own_rowO ho); have HR := Lib.hid (own_rowO ho2); clear ho ho2; have HXN := Lib.hid (bt HX.out (Nat.le_refl _) hb); clear HX hb c0 c1 c2 c3 c4 c5 c6 c7 c8 c9 c10; have HX := HXN; clear HXN; obtain ⟨c0, c1, c2, c3, c4, c5, c6, c7, c8, c9, c10⟩ := rbox_of (HALL.out _ HX.out).1)
      go_upto_region 9 with (go_at_call 9; refine (HMOD.out _ (HALL.out _ HX.out).2 _ _ HS.out HR.out).mono ?_; rintro e w3 ⟨hb, v, rfl, ho⟩; have ho2 := ho; rw [HTL.out] at ho2; obtain ⟨TA, tc, hve⟩ := own_slice1 ho2; subst hve; have HT := Lib.hid (own_rowO ho); clear ho ho2; have HXN := Lib.hid (bt HX.out (Nat.le_refl _) hb); clear HX hb c0 c1 c2 c3 c4 c5 c6 c7 c8 c9 c10; have HX := HXN; clear HXN; obtain ⟨c0, c1, c2, c3, c4, c5, c6, c7, c8, c9, c10⟩ := rbox_of (HALL.out _ HX.out).1)
      obtain ⟨A', c', e', _, _, rT⟩ := HT.out
      injection e' with e1 e2 e3
      subst e1 e3
      have HRT := Lib.hid rT
      have HW3 : Hid (Below w3.heap.size w3 w3) := Lib.hid (Below.refl _ _)
      have HX3 : Hid (∀ wz, Below w3.heap.size w3 wz → Below (w.alloc (.cells #[.int .i64 (m : Int), Vi, Vl, Vo, Vb, Vc, Vj, Vf, .slice AA nA ca, Vs, Vt] 29)).heap.size (w.alloc (.cells #[.int .i64 (m : Int), Vi, Vl, Vo, Vb, Vc, Vj, Vf, .slice AA nA ca, Vs, Vt] 29)) wz) := Lib.hid (fun wz hb => bt HX.out (Nat.le_refl _) hb)
      have hm0 := ((HALL.out _ HX.out).2.cell (p := ⟨mb, mo, none⟩) HMB.out.1).trans HMB.out.2
      have hz0 : (0 : Int) < ((m + 1 : Nat) : Int) := by push_cast; omega
      have hz1 : 0 < m + 1 := by omega
      clear rT e2 HT
      go_wp2
      go_loopg [15, 87] nA (fun k x i wx => ∃ q : Nat, q ≤ nA ∧ k = nA - q ∧ i = .int .i64 q ∧ x = .bool (!b0 && (C.ands.take q).all fun z => T.getD (z.1 / 2).toNat false == M.getD (z.1 / 2).toNat false) ∧ Below w3.heap.size w3 wx)
      case atStart => exact ⟨0, Nat.zero_le _, rfl, rfl, by simp, HW3.out⟩
      case round =>
        obtain ⟨q, hq, hgk, rfl, hxe, hbw⟩ := hrel
        subst hgk
        obtain ⟨av, hav⟩ : ∃ b, (!b0 && (C.ands.take q).all fun z => T.getD (z.1 / 2).toNat false == M.getD (z.1 / 2).toNat false) = b := ⟨_, rfl⟩
        rw [hav] at hxe
        subst hxe
        have HAV := Lib.hid hav
        have HBW := Lib.hid hbw
        clear hav hbw HW3 HX hm0 c0 c1 c2 c3 c4 c5 c6 c7 c8 c9 c10
        have HX := Lib.hid (HX3.out _ HBW.out)
        obtain ⟨c0, c1, c2, c3, c4, c5, c6, c7, c8, c9, c10⟩ := rbox_of (HALL.out _ HX.out).1
        by_cases hlt : q < nA
        · obtain ⟨z, hz⟩ : ∃ z, C.ands[q]? = some z := ⟨_, List.getElem?_eq_getElem (by rw [HNA.out]; exact hlt)⟩
          obtain ⟨b, off, e, hb, hcell⟩ := HRA.out q z hz
          subst e
          have hzr := (HZ.out z (List.mem_of_getElem? hz)).1
          have htk := all_takeO (p := fun z : Tri => T.getD (z.1 / 2).toNat false == M.getD (z.1 / 2).toNat false) hz
          obtain ⟨z0, z1, z2⟩ := z
          simp only at hzr htk
          obtain ⟨hl0, hl1⟩ := hzr
          obtain ⟨x, hx⟩ : ∃ x, T[(z0 / 2).toNat]? = some x := ⟨_, List.getElem?_eq_getElem (by rw [HTL.out]; omega)⟩
          obtain ⟨y, hy⟩ : ∃ x, M[(z0 / 2).toNat]? = some x := ⟨_, List.getElem?_eq_getElem (by rw [HNM.out]; omega)⟩
          rw [List.getD_eq_getElem?_getD, List.getD_eq_getElem?_getD, hx, hy] at htk
          have HTK : Hid ((!b0 && (C.ands.take (q + 1)).all fun z => T.getD (z.1 / 2).toNat false == M.getD (z.1 / 2).toNat false) = (av && (x == y))) := Lib.hid (by rw [htk, ← Bool.and_assoc, HAV.out]; rfl)
          obtain ⟨b2, off2, e, hb2, hcell2⟩ := HRT.out _ x hx
          subst e
          obtain ⟨b3, off3, e, hb3, hcell3⟩ := HRM.out _ y hy
          cases e
          have hbl := (HALL.out _ HX.out).2
          have h0 := (hbl.cell (p := ⟨b, off + (q * 3 + 0), none⟩) hb).trans (hcell 0 _ rfl)
          have h1 := (hbl.cell (p := ⟨b, off + (q * 3 + 1), none⟩) hb).trans (hcell 1 _ rfl)
          have h2 := (hbl.cell (p := ⟨b, off + (q * 3 + 2), none⟩) hb).trans (hcell 2 _ rfl)
          simp only [Nat.add_zero, ← Nat.add_assoc] at h0 h1 h2
          have HBA := Lib.hid (HBW.out.alloc HBW.out.size (.cells #[.int .i64 z0, .int .i64 z1, .int .i64 z2] 45))
          have h3 := (HBA.out.cell (p := ⟨b2, off2 + ((z0 / 2).toNat * 1 + 0), none⟩) hb2).trans (hcell2 0 _ rfl)
          have h4 := ((HALL.out _ (HX3.out _ HBA.out)).2.cell (p := ⟨mb, mo + ((z0 / 2).toNat * 1 + 0), none⟩) hb3).trans (hcell3 0 _ rfl)
          simp only [Nat.mul_one, Nat.add_zero] at h3 h4
          have hnb : Blk (wr.alloc (.cells #[.int .i64 z0, .int .i64 z1, .int .i64 z2] 45)) wr.heap.size 45 #[.int .i64 z0, .int .i64 z1, .int .i64 z2] := Blk.new wr _ _
          have y0 := hnb.cell 0
          have y1 := hnb.cell 1
          have y2 := hnb.cell 2
          simp only [List.getElem?_toArray, List.getElem?_cons_zero, List.getElem?_cons_succ] at y0 y1 y2
          have hq2 := tdiv_nn (b := 2) (show 0 ≤ z0 by omega)
          have hq3 : 0 ≤ z0 / 2 := by omega
          have hq4 : z0 / 2 < (m : Int) + 1 := by omega
          have hq5 : z0 / 2 < ((m + 1 : Nat) : Int) := by push_cast; omega
          have hq8 : IntKind.i64.wrap (z0 / 2) = z0 / 2 := by simp [IntKind.wrap, IntKind.bits, IntKind.signed]; omega
          clear hcell hcell2 hcell3 hz hbl htk hx hy hnb
          cases av
          · go_upto_region 15 with (fail)
            go_quiet (fail)
            go_wp2
            go_roundg (nA - (q + 1))
            case measure => omega
            case rel => exact ⟨q + 1, by omega, rfl, by go_num, by rw [HTK.out]; rfl, below_drewN HBA.out _⟩
          · go_upto_region 15 with (fail)
            go_quiet (fail)
            go_wp2
            go_roundg (nA - (q + 1))
            case measure => omega
            case rel => exact ⟨q + 1, by omega, rfl, by go_num, by rw [HTK.out]; rfl, below_drewN HBA.out _⟩
        · have hqe : nA = q := by omega
          subst hqe
          have HE : Hid (hold = av) := Lib.hid (by
            rw [HIFF.out, HM0.out, ← HAV.out, List.take_of_length_le (by rw [HNA.out]; exact Nat.le_refl _)])
          clear hlt hq
          go_wp2
          go_ret
          exact ⟨ret_bool (by rw [HE.out]; simp), (HALL.out _ HX.out).2⟩
    · have hnn : ((nM : Int) != (m : Int) + 1) = true := by
        have : ¬ (nM : Int) = (m : Int) + 1 := by omega
        simpa using this
      clear hl e1 e2 h0 hm HSTP HMOD
      go_enter Try.func3, Try.ntmps3
      go_upto_region 3 with (go_at_call 5; refine (worksE_any _).mono ?_; rintro e w1 ⟨rfl, hb⟩; have HXN := Lib.hid (bt HX.out (Nat.le_refl _) hb); clear HX hb c0 c1 c2 c3 c4 c5 c6 c7 c8 c9 c10; have HX := HXN; clear HXN; obtain ⟨c0, c1, c2, c3, c4, c5, c6, c7, c8, c9, c10⟩ := rbox_of (HALL.out _ HX.out).1)
      go_upto_region 4 with (go_at_call 6; refine (HGAT.out _ (HALL.out _ HX.out).2).mono ?_; rintro e w2 ⟨hb, v, us, rfl, hc⟩; obtain ⟨fA, fc, hfe⟩ := own_slice_k hc.own; subst hfe; clear hc; have HXN := Lib.hid (bt HX.out (Nat.le_refl _) hb); clear HX hb c0 c1 c2 c3 c4 c5 c6 c7 c8 c9 c10; have HX := HXN; clear HXN; obtain ⟨c0, c1, c2, c3, c4, c5, c6, c7, c8, c9, c10⟩ := rbox_of (HALL.out _ HX.out).1)
      have hfb := Blk.new w2 34 #[.int .i64 ((m : Int) + 1), .slice fA us.length fc]
      have HXN := Lib.hid (HX.out.alloc HX.out.size (.cells #[.int .i64 ((m : Int) + 1), .slice fA us.length fc] 34))
      clear HX c0 c1 c2 c3 c4 c5 c6 c7 c8 c9 c10
      have HX := HXN
      clear HXN
      have f0 := hfb.cell 0
      have f1 := hfb.cell 1
      simp only [List.getElem?_toArray, List.getElem?_cons_zero, List.getElem?_cons_succ] at f0 f1
      clear hfb
      go_wp2
      go_ret
      exact ⟨rfl, (HALL.out _ HX.out).2⟩
  · have hq : (r != 0) = true := by simpa using hr
    have hq0 : (r == 0) = false := by simpa using hr
    have e1 : gatesF C = [] := if_neg (by rw [HRR.out]; exact hr)
    rw [e1] at HGAT
    clear hr e1 HSTP HMOD
    go_enter Try.func3, Try.ntmps3
    go_upto_region 3 with (go_at_call 5; refine (worksE_any _).mono ?_; rintro e w1 ⟨rfl, hb⟩; have HXN := Lib.hid (bt HX.out (Nat.le_refl _) hb); clear HX hb c0 c1 c2 c3 c4 c5 c6 c7 c8 c9 c10; have HX := HXN; clear HXN; obtain ⟨c0, c1, c2, c3, c4, c5, c6, c7, c8, c9, c10⟩ := rbox_of (HALL.out _ HX.out).1)
    go_upto_region 4 with (go_at_call 6; refine (HGAT.out _ (HALL.out _ HX.out).2).mono ?_; rintro e w2 ⟨hb, v, us, rfl, hc⟩; have hul := hc.ul; rw [List.length_nil] at hul; obtain ⟨fA, fc, hfe⟩ := own_slice_k hc.own; rw [hul] at hfe; subst hfe; clear hc hul; have HXN := Lib.hid (bt HX.out (Nat.le_refl _) hb); clear HX hb c0 c1 c2 c3 c4 c5 c6 c7 c8 c9 c10; have HX := HXN; clear HXN; obtain ⟨c0, c1, c2, c3, c4, c5, c6, c7, c8, c9, c10⟩ := rbox_of (HALL.out _ HX.out).1)
    have hfb := Blk.new w2 34 #[.int .i64 (varsF C), .slice fA 0 fc]
    have HXN := Lib.hid (HX.out.alloc HX.out.size (.cells #[.int .i64 (varsF C), .slice fA 0 fc] 34))
    clear HX c0 c1 c2 c3 c4 c5 c6 c7 c8 c9 c10
    have HX := HXN
    clear HXN
    have f0 := hfb.cell 0
    have f1 := hfb.cell 1
    simp only [List.getElem?_toArray, List.getElem?_cons_zero, List.getElem?_cons_succ] at f0 f1
    clear hfb
    go_wp2
    go_ret
    exact ⟨rfl, (HALL.out _ HX.out).2⟩
end Go.Proofs.Ytbgdhfnfbahdhab

/- The walk of EncodeHolds: for whatever circuit, state and row the statement's Go function answers true, and nothing that was there has turned. -/
import Derived.Test.YtbgdhfnfbahdhaaEncW
import Derived.Test.YtbgdhfnfbahdhaaEncV
namespace Go.Proofs.Ytbgdhfnfbahdhaa
open Go.RowKit

theorem litsN_of {n : Nat} {F : List (List Int)} (h : WfC n F) : ∀ xs ∈ F, LitsN n xs := fun xs hx => ⟨by have := (h xs hx).1; omega, (h xs hx).2⟩
theorem gates_wf {C : Circ} {m : Nat} (h0 : (checkR C).2 = 0) (hm : C.max = (m : Int)) : WfC (m + 1) (formC C.ands) := formC_wf (by omega) (fun z hz => by
  obtain ⟨⟨a, b⟩, ⟨c, d⟩, e, f⟩ := gates_in h0 hm z hz
  exact ⟨⟨a, by push_cast; omega⟩, ⟨c, by push_cast; omega⟩, e, by push_cast; omega⟩)

set_option maxHeartbeats 20000000 in
set_option maxRecDepth 100000 in
theorem encodeHolds_walk (w : World) (V : CV) (C : Circ) (sv : Value) (st : List Bool) (rv : Value) (row : List Bool) (h : C.In w V) (ok : C.Ok) (_rm : C.Room ∧ C.Reach) (hs : RowE 1 encO w sv st) (_hsb : st.length ≤ 140737488351232) (hr : RowE 1 encO w rv row) (_hrb : row.length ≤ 140737488351232) :
    Calls Try.prog 5 #[V.val C.max, sv, rv] w fun e w' => e = .returned (.bool true) ∧ Below w.heap.size w w' := by
  obtain ⟨O, hO⟩ := ord_ex h ok
  have HGAT := Lib.hid (fun (wx : World) (hb : Below w.heap.size w wx) => Gates_any wx V C (h.below hb) ok)
  have HMOD := Lib.hid (fun (wx : World) (hb : Below w.heap.size w wx) => eModel_any wx V C sv rv st row O (h.below hb) ok (hs.below hb) (hr.below hb) hO)
  have HSTP := Lib.hid (fun (wx : World) (hb : Below w.heap.size w wx) (v : Value) (M : List Bool) (hv : RowE 1 encO wx v M) => eStep_any wx V C v M (h.below hb) ok hv)
  have HSAME := Lib.hid (fun (wx : World) (v u : Value) (zs : List Bool) (hx : RowE 1 encO wx v zs) (hy : RowE 1 encO wx u zs) => (show Calls Try.prog 21 #[v, u] wx fun e w' => e = .returned (.bool true) ∧ Below wx.heap.size wx w' from by have := SameO_any wx v u zs zs hx hy; rwa [decide_eq_true (rfl : zs = zs)] at this))
  have HS0 := Lib.hid hs
  have HR0 := Lib.hid hr
  have HO := Lib.hid hO
  obtain ⟨sA, sn, sc, hse⟩ := slO_form hs
  obtain ⟨rA, rn, rc, hre⟩ := slO_form hr
  subst hse hre
  obtain ⟨Vi, Vl, Vo, Vb, Vc, Vj, Vf, Va, Vs, Vt⟩ := V
  obtain ⟨mx, hmx⟩ : ∃ m, C.max = m := ⟨_, rfl⟩
  obtain ⟨a, r, hrr⟩ : ∃ a r, checkR C = (a, r) := ⟨_, _, rfl⟩
  have HRR : Hid ((checkR C).2 = r) := Lib.hid (by rw [hrr])
  have HMX := Lib.hid hmx
  rw [hmx] at HGAT HMOD HSTP
  rw [hrr] at HGAT
  rw [hmx]
  have HALL : Hid (∀ wz, Below (w.alloc (.cells #[.int .i64 mx, Vi, Vl, Vo, Vb, Vc, Vj, Vf, Va, Vs, Vt] 29)).heap.size (w.alloc (.cells #[.int .i64 mx, Vi, Vl, Vo, Vb, Vc, Vj, Vf, Va, Vs, Vt] 29)) wz → Blk wz w.heap.size 29 #[.int .i64 mx, Vi, Vl, Vo, Vb, Vc, Vj, Vf, Va, Vs, Vt] ∧ Below w.heap.size w wz) := Lib.hid (fun wz hb =>
    ⟨(Blk.new w _ _).below hb (by simp), ((Below.refl w.heap.size w).alloc (Nat.le_refl _) _).trans (hb.mono (by simp))⟩)
  have HX : Hid (Below (w.alloc (.cells #[.int .i64 mx, Vi, Vl, Vo, Vb, Vc, Vj, Vf, Va, Vs, Vt] 29)).heap.size (w.alloc (.cells #[.int .i64 mx, Vi, Vl, Vo, Vb, Vc, Vj, Vf, Va, Vs, Vt] 29)) (w.alloc (.cells #[.int .i64 mx, Vi, Vl, Vo, Vb, Vc, Vj, Vf, Va, Vs, Vt] 29))) := Lib.hid (Below.refl _ _)
  clear h ok hs hr hO hmx hrr
  obtain ⟨c0, c1, c2, c3, c4, c5, c6, c7, c8, c9, c10⟩ := rbox_of (HALL.out _ HX.out).1
  by_cases hf : fitE C st row = 0
  · obtain ⟨h0, h1, h2⟩ := fitE_ok hf
    have hr0 : r = 0 := by rw [← HRR.out]; exact h0
    subst hr0
    obtain ⟨m, hm⟩ : ∃ m : Nat, C.max = (m : Int) := ⟨C.max.toNat, by have := (right_of h0).m0; omega⟩
    have hmm : mx = (m : Int) := by rw [← HMX.out, hm]
    subst hmm
    have hm1 : m ≤ 16384 := by have := (right_of h0).m1; omega
    have hvo := valOk h0 (HO.out h0) h1 h2
    have e1 : gatesF C = formC C.ands := if_pos h0
    have e2 : varsF C = (m : Int) + 1 := by unfold varsF; rw [if_pos h0, hm]
    have e3 : valA C O st row = valF C O st row := if_pos hf
    obtain ⟨T, hT⟩ : ∃ T, valF C O st row = T := ⟨_, rfl⟩
    have HTL : Hid (T.length = m + 1) := Lib.hid (by rw [← hT, valF_len]; omega)
    have HHD : Hid (holdsC T (formC C.ands) = true) := Lib.hid (by rw [← hT]; exact vals_hold h0 hvo (fun z hz => hz))
    have HME : Hid (mdlE C T = 0) := Lib.hid (mdlE_ok h0 (by rw [HTL.out]; omega))
    have HSB : Hid (mdlSA C T = st ∧ mdlRA C T = row) := Lib.hid (by
      unfold mdlSA mdlRA
      rw [HME.out, if_pos rfl, if_pos rfl]
      exact step_back (hT ▸ hvo) h1 h2)
    have HWF := Lib.hid (litsN_of (gates_wf h0 hm))
    have HFL : Hid ((formC C.ands).length ≤ 524288) := Lib.hid (by rw [formC_len]; have := (right_of h0).na; omega)
    rw [e1, e2] at HGAT
    rw [hf, e3, hT] at HMOD
    have HSTP1 := Lib.hid (fun (wx : World) (hb : Below w.heap.size w wx) (v : Value) (hv : RowE 1 encO wx v T) => HSTP.out wx hb v T hv)
    rw [HME.out, HSB.out.1, HSB.out.2] at HSTP1
    have HHOL := Lib.hid (fun (wx : World) (v u : Value) (hv : Lists wx v (formC C.ands)) (hu : RowE 1 encO wx u T) => cHolds_any wx v u (formC C.ands) T (m + 1) (by omega) hv HFL.out HWF.out hu HTL.out)
    rw [HHD.out] at HHOL
    have hmc : (((m + 1 : Nat) : Int)) = (m : Int) + 1 := by push_cast; rfl
    rw [hmc] at HHOL
    generalize formC C.ands = F at *
    clear hf h0 h1 h2 hm hvo e1 e2 e3 hT HSTP hmc
    go_enter Try.func5, Try.ntmps5
    go_upto_region 3 with (go_at_call 18; refine (worksE_any _).mono ?_; rintro e w1 ⟨rfl, hb⟩; have HXN := Lib.hid (bt HX.out (Nat.le_refl _) hb); clear HX hb c0 c1 c2 c3 c4 c5 c6 c7 c8 c9 c10; have HX := HXN; clear HXN; obtain ⟨c0, c1, c2, c3, c4, c5, c6, c7, c8, c9, c10⟩ := rbox_of (HALL.out _ HX.out).1)
    go_upto_region 4 with (go_at_call 8; refine (HGAT.out _ (HALL.out _ HX.out).2).mono ?_; rintro e w2 ⟨hb, v, us, rfl, hc⟩; obtain ⟨fA, fc, hfe⟩ := own_slice_k hc.own; subst hfe; have HF := Lib.hid hc.lists; clear hc; have HXN := Lib.hid (bt HX.out (Nat.le_refl _) hb); clear HX hb c0 c1 c2 c3 c4 c5 c6 c7 c8 c9 c10; have HX := HXN; clear HXN; obtain ⟨c0, c1, c2, c3, c4, c5, c6, c7, c8, c9, c10⟩ := rbox_of (HALL.out _ HX.out).1)
    have HFB := Lib.hid (Blk.new w2 34 #[.int .i64 ((m : Int) + 1), .slice fA us.length fc])
    have HFN := Lib.hid (HF.out.below ((Below.refl _ _).alloc (Nat.le_refl _) (.cells #[.int .i64 ((m : Int) + 1), .slice fA us.length fc] 34)))
    have HXN := Lib.hid (HX.out.alloc HX.out.size (.cells #[.int .i64 ((m : Int) + 1), .slice fA us.length fc] 34))
    clear HX HF c0 c1 c2 c3 c4 c5 c6 c7 c8 c9 c10
    have HX := HXN
    have HF := HFN
    clear HXN HFN
    obtain ⟨c0, c1, c2, c3, c4, c5, c6, c7, c8, c9, c10⟩ := rbox_of (HALL.out _ HX.out).1
    go_upto_region 5 with (go_at_call 19; refine (HMOD.out _ (HALL.out _ HX.out).2).mono ?_; rintro e w3 ⟨hb, v, rfl, ho⟩; obtain ⟨TA, tc, hve⟩ := own_slice1 ho; subst hve; have HT := Lib.hid (own_rowO ho); have HFN := Lib.hid (HF.out.below hb); have HFBN := Lib.hid (HFB.out.below hb HFB.out.lt); clear HF HFB ho; have HF := HFN; have HFB := HFBN; clear HFN HFBN; have HXN := Lib.hid (bt HX.out (Nat.le_refl _) hb); clear HX hb c0 c1 c2 c3 c4 c5 c6 c7 c8 c9 c10; have HX := HXN; clear HXN; obtain ⟨c0, c1, c2, c3, c4, c5, c6, c7, c8, c9, c10⟩ := rbox_of (HALL.out _ HX.out).1; have f0 := HFB.out.cell 0; have f1 := HFB.out.cell 1; simp only [List.getElem?_toArray, List.getElem?_cons_zero, List.getElem?_cons_succ] at f0 f1)
    go_upto_region 8 with (go_at_call 24; refine (HHOL.out _ _ _ HF.out HT.out).mono ?_; rintro e w4 ⟨⟨ix, rfl⟩, hb⟩; have HTN := Lib.hid (HT.out.below hb); clear HT HF; have HT := HTN; clear HTN; have HXN := Lib.hid (bt HX.out (Nat.le_refl _) hb); clear HX hb c0 c1 c2 c3 c4 c5 c6 c7 c8 c9 c10; have HX := HXN; clear HXN; obtain ⟨c0, c1, c2, c3, c4, c5, c6, c7, c8, c9, c10⟩ := rbox_of (HALL.out _ HX.out).1)
    go_upto_region 9 with (go_at_call 22; refine (HSTP1.out _ (HALL.out _ HX.out).2 _ HT.out).mono ?_; rintro e w5 ⟨hb, s, u, rfl, ho, ho2⟩; obtain ⟨gA, gc, hve⟩ := own_slice1 ho; obtain ⟨hA, hc, hve2⟩ := own_slice1 ho2; subst hve hve2; have HS := Lib.hid (own_rowO ho); have HR := Lib.hid (own_rowO ho2); clear ho ho2; have HXN := Lib.hid (bt HX.out (Nat.le_refl _) hb); clear HX hb c0 c1 c2 c3 c4 c5 c6 c7 c8 c9 c10; have HX := HXN; clear HXN; obtain ⟨c0, c1, c2, c3, c4, c5, c6, c7, c8, c9, c10⟩ := rbox_of (HALL.out _ HX.out).1)
    go_wp2_with (first
      | (go_at_call_of 21 gA; refine (HSAME.out _ _ _ st HS.out (HS0.out.below (HALL.out _ HX.out).2)).mono ?_; rintro e w6 ⟨rfl, hb⟩; have HRN := Lib.hid (HR.out.below hb); clear HR; have HR := HRN; clear HRN; have HXN := Lib.hid (bt HX.out (Nat.le_refl _) hb); clear HX hb c0 c1 c2 c3 c4 c5 c6 c7 c8 c9 c10; have HX := HXN; clear HXN; obtain ⟨c0, c1, c2, c3, c4, c5, c6, c7, c8, c9, c10⟩ := rbox_of (HALL.out _ HX.out).1)
      | (go_at_call_of 21 hA; refine (HSAME.out _ _ _ row HR.out (HR0.out.below (HALL.out _ HX.out).2)).mono ?_; rintro e w7 ⟨rfl, hb⟩; have HXN := Lib.hid (bt HX.out (Nat.le_refl _) hb); clear HX hb c0 c1 c2 c3 c4 c5 c6 c7 c8 c9 c10; have HX := HXN; clear HXN; obtain ⟨c0, c1, c2, c3, c4, c5, c6, c7, c8, c9, c10⟩ := rbox_of (HALL.out _ HX.out).1))
    go_ret
    exact ⟨rfl, (HALL.out _ HX.out).2⟩
  · have hva : valA C O st row = [] := if_neg hf
    rw [hva] at HMOD
    obtain ⟨f, hfe⟩ : ∃ f, fitE C st row = f := ⟨_, rfl⟩
    rw [hfe] at hf HMOD
    have hfb : (f != 0) = true := by simpa using hf
    have HFR : Hid (r ≠ 0 → f = r) := Lib.hid (fun h => by rw [← hfe, fitE_bad (by rw [HRR.out]; exact h), HRR.out])
    clear hva hfe
    by_cases hr : r = 0
    · subst hr
      clear hf
      go_enter Try.func5, Try.ntmps5
      go_upto_region 3 with (go_at_call 18; refine (worksE_any _).mono ?_; rintro e w1 ⟨rfl, hb⟩; have HXN := Lib.hid (bt HX.out (Nat.le_refl _) hb); clear HX hb c0 c1 c2 c3 c4 c5 c6 c7 c8 c9 c10; have HX := HXN; clear HXN; obtain ⟨c0, c1, c2, c3, c4, c5, c6, c7, c8, c9, c10⟩ := rbox_of (HALL.out _ HX.out).1)
      go_upto_region 4 with (go_at_call 8; refine (HGAT.out _ (HALL.out _ HX.out).2).mono ?_; rintro e w2 ⟨hb, v, us, rfl, hc⟩; obtain ⟨fA, fc, hfe⟩ := own_slice_k hc.own; subst hfe; clear hc; have HXN := Lib.hid (bt HX.out (Nat.le_refl _) hb); clear HX hb c0 c1 c2 c3 c4 c5 c6 c7 c8 c9 c10; have HX := HXN; clear HXN; obtain ⟨c0, c1, c2, c3, c4, c5, c6, c7, c8, c9, c10⟩ := rbox_of (HALL.out _ HX.out).1)
      have HXN := Lib.hid (HX.out.alloc HX.out.size (.cells #[.int .i64 (varsF C), .slice fA us.length fc] 34))
      clear HX c0 c1 c2 c3 c4 c5 c6 c7 c8 c9 c10
      have HX := HXN
      clear HXN
      obtain ⟨c0, c1, c2, c3, c4, c5, c6, c7, c8, c9, c10⟩ := rbox_of (HALL.out _ HX.out).1
      go_wp2_with (go_at_call 19; refine (HMOD.out _ (HALL.out _ HX.out).2).mono ?_; rintro e w3 ⟨hb, v, rfl, ho⟩; obtain ⟨TA, tc, hve⟩ := own_slice1 ho; subst hve; clear ho; have HXN := Lib.hid (bt HX.out (Nat.le_refl _) hb); clear HX hb c0 c1 c2 c3 c4 c5 c6 c7 c8 c9 c10; have HX := HXN; clear HXN; obtain ⟨c0, c1, c2, c3, c4, c5, c6, c7, c8, c9, c10⟩ := rbox_of (HALL.out _ HX.out).1)
      go_ret
      exact ⟨rfl, (HALL.out _ HX.out).2⟩
    · have hfr := HFR.out hr
      subst hfr
      have hff : (f == f) = true := by simp
      have hf0 : (f == 0) = false := by simpa using hf
      clear hf hr
      go_enter Try.func5, Try.ntmps5
      go_upto_region 3 with (go_at_call 18; refine (worksE_any _).mono ?_; rintro e w1 ⟨rfl, hb⟩; have HXN := Lib.hid (bt HX.out (Nat.le_refl _) hb); clear HX hb c0 c1 c2 c3 c4 c5 c6 c7 c8 c9 c10; have HX := HXN; clear HXN; obtain ⟨c0, c1, c2, c3, c4, c5, c6, c7, c8, c9, c10⟩ := rbox_of (HALL.out _ HX.out).1)
      go_upto_region 4 with (go_at_call 8; refine (HGAT.out _ (HALL.out _ HX.out).2).mono ?_; rintro e w2 ⟨hb, v, us, rfl, hc⟩; obtain ⟨fA, fc, hfe⟩ := own_slice_k hc.own; subst hfe; clear hc; have HXN := Lib.hid (bt HX.out (Nat.le_refl _) hb); clear HX hb c0 c1 c2 c3 c4 c5 c6 c7 c8 c9 c10; have HX := HXN; clear HXN; obtain ⟨c0, c1, c2, c3, c4, c5, c6, c7, c8, c9, c10⟩ := rbox_of (HALL.out _ HX.out).1)
      have HXN := Lib.hid (HX.out.alloc HX.out.size (.cells #[.int .i64 (varsF C), .slice fA us.length fc] 34))
      clear HX c0 c1 c2 c3 c4 c5 c6 c7 c8 c9 c10
      have HX := HXN
      clear HXN
      obtain ⟨c0, c1, c2, c3, c4, c5, c6, c7, c8, c9, c10⟩ := rbox_of (HALL.out _ HX.out).1
      go_wp2_with (go_at_call 19; refine (HMOD.out _ (HALL.out _ HX.out).2).mono ?_; rintro e w3 ⟨hb, v, rfl, ho⟩; obtain ⟨TA, tc, hve⟩ := own_slice1 ho; subst hve; clear ho; have HXN := Lib.hid (bt HX.out (Nat.le_refl _) hb); clear HX hb c0 c1 c2 c3 c4 c5 c6 c7 c8 c9 c10; have HX := HXN; clear HXN; obtain ⟨c0, c1, c2, c3, c4, c5, c6, c7, c8, c9, c10⟩ := rbox_of (HALL.out _ HX.out).1)
      go_ret
      exact ⟨rfl, (HALL.out _ HX.out).2⟩
end Go.Proofs.Ytbgdhfnfbahdhaa

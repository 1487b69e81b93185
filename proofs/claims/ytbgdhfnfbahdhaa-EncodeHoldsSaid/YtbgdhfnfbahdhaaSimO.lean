/- Sim: the contracts of the document's next state, constraints, and of its calls Values, Next, Holds. -/
import Derived.Test.YtbgdhfnfbahdhaaSimB
import Derived.Test.YtbgdhfnfbahdhaaSimE
namespace Go.Proofs.Ytbgdhfnfbahdhaa
open Go.RowKit

set_option maxHeartbeats 8000000 in
set_option maxRecDepth 100000 in
theorem rValues0_any (w : World) (V : CV) (C : Circ) (gv sv rv : Value) (gs : List Int) (st row : List Bool) (h : C.In w V) (hg : RowE 1 encI w gv gs) (hs : RowE 1 encO w sv st) (hr : RowE 1 encO w rv row)
    (hrt : Right C) (hls : st.length = C.latches.length) (hlr : row.length = C.inputs.length) (hG : ∀ g ∈ gs, 0 ≤ g ∧ g < (C.ands.length : Int)) (hgl : gs.length ≤ 16384) :
    Calls Try.prog 77 #[V.val C.max, gv, sv, rv] w fun e w' => ∃ g, e = .returned (.slice (some ⟨g, 0, none⟩) (C.max.toNat + 1) (C.max.toNat + 1)) ∧ w.heap.size ≤ g ∧ Below w.heap.size w w' ∧ Tab w' g (valF C gs st row) := by
  obtain ⟨m, hmm⟩ : ∃ m : Nat, C.max = (m : Int) := ⟨C.max.toNat, by have := hrt.m0; omega⟩
  have hm1 := hrt.m1
  have hmt : C.max.toNat = m := by rw [hmm]; rfl
  have hvf : valF C gs st row = gatesT C gs (putF ((C.latches.map (·.1)).zip st) (putF (C.inputs.zip row) (List.replicate (m + 1) false))) := by unfold valF baseT; rw [hmt]
  rw [hmt, hvf]
  rw [hmm] at hm1 ⊢
  have hmk := make_bools (m + 1) (by omega)
  push_cast at hmk
  have hn1 := hrt.ni
  have hn2 := hrt.nl
  have hn3 := hrt.na
  have HI : Hid (∀ l ∈ C.inputs, 0 ≤ l ∧ l / 2 ≤ (m : Int)) := Lib.hid (fun l hl => by have := hrt.i l hl; omega)
  have HL : Hid (∀ z ∈ C.latches, 0 ≤ z.1 ∧ z.1 / 2 ≤ (m : Int)) := Lib.hid (fun z hz => by have := (hrt.l z hz).1; omega)
  have HA : Hid (∀ z ∈ C.ands, (0 ≤ z.1 ∧ z.1 / 2 ≤ (m : Int)) ∧ (0 ≤ z.2.1 ∧ z.2.1 / 2 ≤ (m : Int)) ∧ (0 ≤ z.2.2 ∧ z.2.2 / 2 ≤ (m : Int))) := Lib.hid (fun z hz => by
    obtain ⟨a, b, c⟩ := hrt.a z hz
    unfold LitOk at b c
    rw [hmm] at a b c
    exact ⟨⟨by omega, a.2⟩, b, c⟩)
  obtain ⟨AI, cI, eI, _, _, rI⟩ := h.i
  obtain ⟨AL, cL, eL, _, _, rL⟩ := h.l
  obtain ⟨AA, cA, eA, _, _, rA⟩ := h.a
  obtain ⟨AG, cG, eG, _, _, rG⟩ := hg
  obtain ⟨AS, cS, eS, _, _, rS⟩ := hs
  obtain ⟨AR, cR, eR, _, _, rR⟩ := hr
  obtain ⟨Vi, Vl, Vo, Vb, Vc, Vj, Vf, Va, Vs, Vt⟩ := V
  simp only at eI eL eA
  subst eI eL eA eG eS eR
  rw [hls, hlr]
  have HS0 : Hid (VS w ((w.alloc (.cells #[.int .i64 m, .slice AI C.inputs.length cI, .slice AL C.latches.length cL, Vo, Vb, Vc, Vj, Vf, .slice AA C.ands.length cA, Vs, Vt] 29)).alloc (.cells (madeCells #[Value.bool false] (m + 1)) 4)) w.heap.size (w.heap.size + 1) (w.heap.size + 1) #[.int .i64 m, .slice AI C.inputs.length cI, .slice AL C.latches.length cL, Vo, Vb, Vc, Vj, Vf, .slice AA C.ands.length cA, Vs, Vt] (m + 1) (List.replicate (m + 1) false)) := by
    refine Lib.hid ⟨((Below.refl w.heap.size w).alloc (Nat.le_refl _) _).alloc (by simp) _, (Blk.new w _ _).alloc _, ?_, fun e => absurd rfl e⟩
    · unfold Tab
      rw [← made_bools]
      have := (Blk.new (w.alloc (.cells #[.int .i64 m, .slice AI C.inputs.length cI, .slice AL C.latches.length cL, Vo, Vb, Vc, Vj, Vf, .slice AA C.ands.length cA, Vs, Vt] 29)) 4 (madeCells #[Value.bool false] (m + 1)))
      simpa using this
  have HRI := Lib.hid rI
  have HRL := Lib.hid rL
  have HRA := Lib.hid rA
  have HRG := Lib.hid rG
  have HRS := Lib.hid rS
  have HRR := Lib.hid rR
  have HG := Lib.hid hG
  clear rI rL rA rG rS rR hG h hrt hmm hmt hvf
  generalize hnI : C.inputs.length = nI at *
  generalize hnL : C.latches.length = nL at *
  generalize hnA : C.ands.length = nA at *
  generalize hnG : gs.length = nG at *
  have HNI := Lib.hid hnI
  have HNL := Lib.hid hnL
  have HNA := Lib.hid hnA
  have HNG := Lib.hid hnG
  have HLR := Lib.hid hlr
  have HLS := Lib.hid hls
  clear hnI hnL hnA hnG hlr hls
  go_enter Try.func77, Try.ntmps77
  go_wp2
  go_loopg [10] nI (fun k j wx => ∃ q : Nat, q ≤ nI ∧ k = nI - q ∧ j = .int .i64 q ∧ VS w wx w.heap.size (w.heap.size + 1) (w.heap.size + 1) #[.int .i64 m, .slice AI nI cI, .slice AL nL cL, Vo, Vb, Vc, Vj, Vf, .slice AA nA cA, Vs, Vt] (m + 1) (putF ((C.inputs.zip row).take q) (List.replicate (m + 1) false)))
  case atStart => exact ⟨0, Nat.zero_le _, rfl, rfl, HS0.out⟩
  case round =>
    obtain ⟨q, hq, hgk, rfl, hst⟩ := hrel
    subst hgk
    have HST := Lib.hid hst
    have bx := hst.box
    have x1 := bx.cell 1
    have x2 := bx.cell 2
    have x8 := bx.cell 8
    simp only [List.getElem?_toArray, List.getElem?_cons_zero, List.getElem?_cons_succ] at x1 x2 x8
    clear bx
    by_cases hlt : q < nI
    · obtain ⟨l, hl⟩ : ∃ l, C.inputs[q]? = some l := ⟨_, List.getElem?_eq_getElem (by rw [HNI.out]; exact hlt)⟩
      obtain ⟨y, hy⟩ : ∃ y, row[q]? = some y := ⟨_, List.getElem?_eq_getElem (by rw [HLR.out]; exact hlt)⟩
      obtain ⟨b, off, e, hb, hcell⟩ := HRI.out q l hl
      subst e
      obtain ⟨b2, off2, e, hb2, hcell2⟩ := HRR.out q y hy
      subst e
      have h0 := (HST.out.below.cell (p := ⟨b, off + (q * 1 + 0), none⟩) hb).trans (hcell 0 _ rfl)
      have h1 := (HST.out.below.cell (p := ⟨b2, off2 + (q * 1 + 0), none⟩) hb2).trans (hcell2 0 _ rfl)
      simp only [Nat.mul_one, Nat.add_zero] at h0 h1
      obtain ⟨hl0, hl1⟩ := HI.out l (List.mem_of_getElem? hl)
      have hp := zipT_snoc hl hy
      have HP := Lib.hid hp
      have hq2 := tdiv_nn (b := 2) hl0
      have hq3 : 0 ≤ l / 2 := by omega
      have hq4 : l / 2 < (m : Int) + 1 := by omega
      have hlen : (putF ((C.inputs.zip row).take q) (List.replicate (m + 1) false)).length = m + 1 := by rw [putF_len]; simp
      have htl : (l / 2).toNat < (putF ((C.inputs.zip row).take q) (List.replicate (m + 1) false)).length := by rw [hlen]; omega
      have hold := hst.drew.tab.cell (getD_bool htl)
      have hfr := Blk.frozen hst.drew.tab (l / 2).toNat
      have hgb := Blk.lt hst.drew.tab
      have hq5 : l / 2 < ((m + 1 : Nat) : Int) := by push_cast; omega
      have hq8 : IntKind.i64.wrap (l / 2) = l / 2 := by simp [IntKind.wrap, IntKind.bits, IntKind.signed]; omega
      have hql : (q : Int) < (nI : Int) := by omega
      have hql0 : (0 : Int) ≤ (q : Int) := by omega
      clear hcell hcell2 hl hy hp hst hlen htl
      go_upto_region 5 with (fail)
      go_region
      go_wp2
      go_roundg (nI - (q + 1))
      case measure => omega
      case rel =>
        refine ⟨q + 1, by omega, rfl, by go_num, ?_⟩
        rw [HP.out, putF_snoc]
        exact HST.out.drew.set_ (by omega) (by omega) _ _
    · have hqe : nI = q := by omega
      subst hqe
      clear hst hlt hq
      have HB1 : Hid (putF ((C.inputs.zip row).take nI) (List.replicate (m + 1) false) = putF (C.inputs.zip row) (List.replicate (m + 1) false)) := Lib.hid (by rw [zipT_all HNI.out])
      have HL1 : Hid ((putF (C.inputs.zip row) (List.replicate (m + 1) false)).length = m + 1) := Lib.hid (by rw [putF_len]; simp)
      rw [HB1.out] at HST
      clear HB1
      obtain ⟨T1, hT1⟩ : ∃ T1, putF (C.inputs.zip row) (List.replicate (m + 1) false) = T1 := ⟨_, rfl⟩
      rw [hT1] at HST HL1
      have HT1 := Lib.hid hT1
      clear hT1
      go_wp2
      go_loopg [11] nL (fun k j wx => ∃ q : Nat, q ≤ nL ∧ k = nL - q ∧ j = .int .i64 q ∧ VS w wx w.heap.size (w.heap.size + 1) (w.heap.size + 1) #[.int .i64 m, .slice AI nI cI, .slice AL nL cL, Vo, Vb, Vc, Vj, Vf, .slice AA nA cA, Vs, Vt] (m + 1) (putF (((C.latches.map (·.1)).zip st).take q) T1))
      case atStart => exact ⟨0, Nat.zero_le _, rfl, rfl, HST.out⟩
      case round =>
        obtain ⟨q, hq, hgk, rfl, hst⟩ := hrel
        subst hgk
        clear x1 x2 x8
        have HST2 := Lib.hid hst
        have bx := hst.box
        have x1 := bx.cell 1
        have x2 := bx.cell 2
        have x8 := bx.cell 8
        simp only [List.getElem?_toArray, List.getElem?_cons_zero, List.getElem?_cons_succ] at x1 x2 x8
        clear bx
        by_cases hlt : q < nL
        · obtain ⟨z, hz⟩ : ∃ z, C.latches[q]? = some z := ⟨_, List.getElem?_eq_getElem (by rw [HNL.out]; exact hlt)⟩
          obtain ⟨y, hy⟩ : ∃ y, st[q]? = some y := ⟨_, List.getElem?_eq_getElem (by rw [HLS.out]; exact hlt)⟩
          obtain ⟨b, off, e, hb, hcell⟩ := HRL.out q z hz
          subst e
          obtain ⟨b2, off2, e, hb2, hcell2⟩ := HRS.out q y hy
          subst e
          have hl : (C.latches.map (·.1))[q]? = some z.1 := by rw [List.getElem?_map, hz]; rfl
          have hp := zipT_snoc hl hy
          have HP := Lib.hid hp
          have HZ := Lib.hid (HL.out z (List.mem_of_getElem? hz))
          obtain ⟨z0, z1, z2⟩ := z
          have h0 := (HST2.out.below.cell (p := ⟨b, off + (q * 3 + 0), none⟩) hb).trans (hcell 0 _ rfl)
          have h1 := (HST2.out.below.cell (p := ⟨b, off + (q * 3 + 1), none⟩) hb).trans (hcell 1 _ rfl)
          have h2 := (HST2.out.below.cell (p := ⟨b, off + (q * 3 + 2), none⟩) hb).trans (hcell 2 _ rfl)
          simp only [Nat.add_zero, ← Nat.add_assoc] at h0 h1 h2
          obtain ⟨hl0, hl1⟩ := HZ.out
          simp only at hl0 hl1
          have hq2 := tdiv_nn (b := 2) hl0
          have hq3 : 0 ≤ z0 / 2 := by omega
          have hq4 : z0 / 2 < (m : Int) + 1 := by omega
          have hlen : (putF (((C.latches.map (·.1)).zip st).take q) T1).length = m + 1 := by rw [putF_len, HL1.out]
          have htl : (z0 / 2).toNat < (putF (((C.latches.map (·.1)).zip st).take q) T1).length := by rw [hlen]; omega
          have HX := Lib.hid hst
          have hbX : Below wr.heap.size wr wr.drew := (Below.refl _ _).drew
          have hbb2 : b2 < wr.heap.size := Nat.lt_of_lt_of_le hb2 HST2.out.below.size
          have h3 := (HX.out.drew.below.cell (p := ⟨b2, off2 + (q * 1 + 0), none⟩) hb2).trans (hcell2 0 _ rfl)
          simp only [Nat.mul_one, Nat.add_zero] at h3
          have hold := HX.out.drew.tab.cell (getD_bool htl)
          have hfr := Blk.frozen HX.out.drew.tab (z0 / 2).toNat
          have hgb := Blk.lt HX.out.drew.tab
          have hql : (q : Int) < (nL : Int) := by omega
          have hql0 : (0 : Int) ≤ (q : Int) := by omega
          clear hcell hcell2 hz hl hy hp hst hlen htl hbX
          have hq5 : z0 / 2 < ((m + 1 : Nat) : Int) := by push_cast; omega
          have hq8 : IntKind.i64.wrap (z0 / 2) = z0 / 2 := by simp [IntKind.wrap, IntKind.bits, IntKind.signed]; omega
          go_upto_region 9 with (fail)
          go_region
          go_wp2
          go_roundg (nL - (q + 1))
          case measure => omega
          case rel =>
            refine ⟨q + 1, by omega, rfl, by go_num, ?_⟩
            rw [HP.out, putF_snoc]
            exact HX.out.drew.set_ (by omega) (by omega) _ _
        · have hqe : nL = q := by omega
          subst hqe
          clear hst hlt hq
          have HB2 : Hid (putF (((C.latches.map (·.1)).zip st).take nL) T1 = putF ((C.latches.map (·.1)).zip st) T1) := Lib.hid (by rw [zipT_all (by rw [List.length_map]; exact HNL.out)])
          have HL2 : Hid ((putF ((C.latches.map (·.1)).zip st) T1).length = m + 1) := Lib.hid (by rw [putF_len]; exact HL1.out)
          rw [HB2.out] at HST2
          clear HB2
          obtain ⟨T2, hT2⟩ : ∃ T2, putF ((C.latches.map (·.1)).zip st) T1 = T2 := ⟨_, rfl⟩
          rw [hT2] at HST2 HL2
          have HT2 := Lib.hid hT2
          clear hT2
          go_wp2
          go_loopg [12] nG (fun k j wx => ∃ q : Nat, q ≤ nG ∧ k = nG - q ∧ j = .int .i64 q ∧ VS w wx w.heap.size (w.heap.size + 1) (w.heap.size + 1) #[.int .i64 m, .slice AI nI cI, .slice AL nL cL, Vo, Vb, Vc, Vj, Vf, .slice AA nA cA, Vs, Vt] (m + 1) (gatesT C (gs.take q) T2))
          case atStart => exact ⟨0, Nat.zero_le _, rfl, rfl, HST2.out⟩
          case round =>
            obtain ⟨q, hq, hgk, rfl, hst⟩ := hrel
            subst hgk
            clear x1 x2 x8
            have HST3 := Lib.hid hst
            have bx := hst.box
            have x1 := bx.cell 1
            have x2 := bx.cell 2
            have x8 := bx.cell 8
            simp only [List.getElem?_toArray, List.getElem?_cons_zero, List.getElem?_cons_succ] at x1 x2 x8
            clear bx
            by_cases hlt : q < nG
            · obtain ⟨gq, hgq⟩ : ∃ gq, gs[q]? = some gq := ⟨_, List.getElem?_eq_getElem (by rw [HNG.out]; exact hlt)⟩
              obtain ⟨hg0, hg1⟩ := HG.out gq (List.mem_of_getElem? hgq)
              obtain ⟨gn, rfl⟩ : ∃ n : Nat, gq = (n : Int) := ⟨gq.toNat, by omega⟩
              obtain ⟨z, hz⟩ : ∃ z, C.ands[gn]? = some z := ⟨_, List.getElem?_eq_getElem (by rw [HNA.out]; omega)⟩
              have HGT : Hid (∀ T, gateT C T (gn : Int) = T.set (z.1 / 2).toNat (litV T z.2.1 && litV T z.2.2)) := Lib.hid (fun T => by
                unfold gateT
                have : C.ands.getD (gn : Int).toNat (0, 0, 0) = z := by simp [List.getD, hz]
                rw [this])
              have HP := Lib.hid (gsT_snoc hgq)
              obtain ⟨b, off, e, hb, hcell⟩ := HRG.out q _ hgq
              subst e
              have h0 := (HST3.out.below.cell (p := ⟨b, off + (q * 1 + 0), none⟩) hb).trans (hcell 0 _ rfl)
              simp only [Nat.mul_one, Nat.add_zero] at h0
              have HZ := Lib.hid (HA.out z (List.mem_of_getElem? hz))
              obtain ⟨b2, off2, e2, hb2, hcell2⟩ := HRA.out gn z hz
              subst e2
              obtain ⟨z0, z1, z2⟩ := z
              have h3 := (HST3.out.below.cell (p := ⟨b2, off2 + (gn * 3 + 0), none⟩) hb2).trans (hcell2 0 _ rfl)
              have h4 := (HST3.out.below.cell (p := ⟨b2, off2 + (gn * 3 + 1), none⟩) hb2).trans (hcell2 1 _ rfl)
              have h5 := (HST3.out.below.cell (p := ⟨b2, off2 + (gn * 3 + 2), none⟩) hb2).trans (hcell2 2 _ rfl)
              simp only [Nat.add_zero, ← Nat.add_assoc] at h3 h4 h5
              have HTL : Hid ((gatesT C (gs.take q) T2).length = m + 1) := Lib.hid (by rw [gatesT_len]; exact HL2.out)
              have HSN : Hid (gatesT C (gs.take (q + 1)) T2 = (gatesT C (gs.take q) T2).set (z0 / 2).toNat (litV (gatesT C (gs.take q) T2) z1 && litV (gatesT C (gs.take q) T2) z2)) := Lib.hid (by rw [HP.out, gatesT_snoc, HGT.out])
              clear hcell hcell2 hz hgq HGT HP
              generalize gatesT C (gs.take q) T2 = T at *
              obtain ⟨⟨a0, a1⟩, ⟨b0, b1⟩, ⟨c0, c1⟩⟩ := HZ.out
              simp only at a0 a1 b0 b1 c0 c1
              have hq2 := tdiv_nn (b := 2) a0
              have hq3 : 0 ≤ z0 / 2 := by omega
              have hq4 : z0 / 2 < (m : Int) + 1 := by omega
              have htl : (z0 / 2).toNat < T.length := by rw [HTL.out]; omega
              have HX := Lib.hid ((hst.alloc (.cells #[.int .i64 z0, .int .i64 z1, .int .i64 z2] 59)).drew.drew)
              have HIS : Hid (∀ (wx : World) (l : Int), VS w wx w.heap.size (w.heap.size + 1) (w.heap.size + 1) #[.int .i64 m, .slice AI nI cI, .slice AL nL cL, Vo, Vb, Vc, Vj, Vf, .slice (some ⟨b2, off2, none⟩) nA cA, Vs, Vt] (m + 1) T → 0 ≤ l → l / 2 ≤ (m : Int) → Calls Try.prog 97 #[.slice (some ⟨w.heap.size + 1, 0, none⟩) (m + 1) (m + 1), .int .i64 l] wx fun e w' => e = .returned (.bool (litV T l)) ∧ w' = wx) := Lib.hid (fun wx l hx h0 h1 => by
                have hv := tabT_row hx.tab (by rw [HTL.out]; unfold maxLen; omega)
                rw [HTL.out] at hv
                exact sLit_any wx _ T l hv h0 (by rw [HTL.out]; push_cast; omega) (by omega))
              have hold := HX.out.tab.cell (getD_bool htl)
              have hfr := Blk.frozen HX.out.tab (z0 / 2).toNat
              have hgb := Blk.lt HX.out.tab
              have hnb : Blk ((wr.alloc (.cells #[.int .i64 z0, .int .i64 z1, .int .i64 z2] 59)).drew.drew) wr.heap.size 59 #[.int .i64 z0, .int .i64 z1, .int .i64 z2] := (Blk.new wr _ _).drew.drew
              have hne : w.heap.size + 1 ≠ wr.heap.size := by have := Blk.lt hst.tab; omega
              have HKE : Hid (∀ b : Bool, (((wr.alloc (.cells #[.int .i64 z0, .int .i64 z1, .int .i64 z2] 59)).drew.drew).setCell ⟨w.heap.size + 1, (z0 / 2).toNat, none⟩ (.bool b)).cell? ⟨wr.heap.size, 0, none⟩ = some (.int .i64 z0) ∧ (((wr.alloc (.cells #[.int .i64 z0, .int .i64 z1, .int .i64 z2] 59)).drew.drew).setCell ⟨w.heap.size + 1, (z0 / 2).toNat, none⟩ (.bool b)).cell? ⟨wr.heap.size, 1, none⟩ = some (.int .i64 z1) ∧ (((wr.alloc (.cells #[.int .i64 z0, .int .i64 z1, .int .i64 z2] 59)).drew.drew).setCell ⟨w.heap.size + 1, (z0 / 2).toNat, none⟩ (.bool b)).cell? ⟨wr.heap.size, 2, none⟩ = some (.int .i64 z2)) := Lib.hid (fun b => by
                have e := Blk.far hnb (p := ⟨w.heap.size + 1, (z0 / 2).toNat, none⟩) (by simpa using Ne.symm hne) (.bool b)
                exact ⟨e.cell 0, e.cell 1, e.cell 2⟩)
              have y0 := hnb.cell 0
              have y1 := hnb.cell 1
              have y2 := hnb.cell 2
              simp only [List.getElem?_toArray, List.getElem?_cons_zero, List.getElem?_cons_succ] at y0 y1 y2
              have HY := Lib.hid (And.intro y0 (And.intro y1 y2))
              have hgnl : (gn : Int) < (nA : Int) := by omega
              have hgn0 : (0 : Int) ≤ (gn : Int) := by omega
              have HBC := Lib.hid (And.intro (And.intro b0 b1) (And.intro c0 c1))
              clear hst htl hnb y0 y1 y2 b0 b1 c0 c1
              have hbX : Below wr.heap.size wr ((wr.alloc (.cells #[.int .i64 0, .int .i64 0, .int .i64 0] 59)).drew) := ((Below.refl _ _).alloc (Nat.le_refl _) _).drew
              have hbw : b < wr.heap.size := Nat.lt_of_lt_of_le hb HST3.out.below.size
              have hbw2 : b2 < wr.heap.size := Nat.lt_of_lt_of_le hb2 HST3.out.below.size
              have k0 := (hbX.cell (p := ⟨b, off + q, none⟩) hbw).trans h0
              have k3 := (hbX.cell (p := ⟨b2, off2 + gn * 3, none⟩) hbw2).trans h3
              have k4 := (hbX.cell (p := ⟨b2, off2 + gn * 3 + 1, none⟩) hbw2).trans h4
              have k5 := (hbX.cell (p := ⟨b2, off2 + gn * 3 + 2, none⟩) hbw2).trans h5
              have k8 := (hbX.cell (p := ⟨w.heap.size, 8, none⟩) (by have := Blk.lt HST3.out.box; exact this)).trans x8
              have hql : (q : Int) < (nG : Int) := by omega
              have hql0 : (0 : Int) ≤ (q : Int) := by omega
              clear hbX
              go_upto_region 13 with (fail)
              go_region
              go_upto_region 14 with (fail)
              clear k0 k3 k4 k5 k8
              have hq5 : z0 / 2 < ((m + 1 : Nat) : Int) := by push_cast; omega
              have hq6 : z0.tdiv 2 < ((m + 1 : Nat) : Int) := by rw [hq2]; exact hq5
              have hq7 : 0 ≤ z0.tdiv 2 := by rw [hq2]; exact hq3
              have hq8 : IntKind.i64.wrap (z0 / 2) = z0 / 2 := by simp [IntKind.wrap, IntKind.bits, IntKind.signed]; omega
              have hq9 : ¬ z0 / 2 < 0 := by omega
              cases hv1 : litV T z1
              · have HI1 : Hid (∀ wx, VS w wx w.heap.size (w.heap.size + 1) (w.heap.size + 1) #[.int .i64 m, .slice AI nI cI, .slice AL nL cL, Vo, Vb, Vc, Vj, Vf, .slice (some ⟨b2, off2, none⟩) nA cA, Vs, Vt] (m + 1) T → Calls Try.prog 97 #[.slice (some ⟨w.heap.size + 1, 0, none⟩) (m + 1) (m + 1), .int .i64 z1] wx fun e w' => e = .returned (.bool false) ∧ w' = wx) := Lib.hid (fun wx hx => by have := HIS.out wx z1 hx HBC.out.1.1 HBC.out.1.2; rwa [hv1] at this)
                have HV1 := Lib.hid hv1
                clear hv1
                first | (go_region_with (go_at_call_of 97 z1; refine (HI1.out _ ?_).mono ?_; exact HX.out; rintro e w5 ⟨rfl, rfl⟩)) | fail
                all_goals go_wp2
                all_goals go_roundg (nG - (q + 1))
                all_goals first
                  | omega
                  | (refine ⟨q + 1, by omega, rfl, by go_num, ?_⟩
                     rw [HSN.out, HV1.out]
                     exact HX.out.set_ (by omega) (by omega) _ _)
              · have HI1 : Hid (∀ wx, VS w wx w.heap.size (w.heap.size + 1) (w.heap.size + 1) #[.int .i64 m, .slice AI nI cI, .slice AL nL cL, Vo, Vb, Vc, Vj, Vf, .slice (some ⟨b2, off2, none⟩) nA cA, Vs, Vt] (m + 1) T → Calls Try.prog 97 #[.slice (some ⟨w.heap.size + 1, 0, none⟩) (m + 1) (m + 1), .int .i64 z1] wx fun e w' => e = .returned (.bool true) ∧ w' = wx) := Lib.hid (fun wx hx => by have := HIS.out wx z1 hx HBC.out.1.1 HBC.out.1.2; rwa [hv1] at this)
                have HI2 : Hid (∀ wx, VS w wx w.heap.size (w.heap.size + 1) (w.heap.size + 1) #[.int .i64 m, .slice AI nI cI, .slice AL nL cL, Vo, Vb, Vc, Vj, Vf, .slice (some ⟨b2, off2, none⟩) nA cA, Vs, Vt] (m + 1) T → Calls Try.prog 97 #[.slice (some ⟨w.heap.size + 1, 0, none⟩) (m + 1) (m + 1), .int .i64 z2] wx fun e w' => e = .returned (.bool (litV T z2)) ∧ w' = wx) := Lib.hid (fun wx hx => HIS.out wx z2 hx HBC.out.2.1 HBC.out.2.2)
                have HV1 := Lib.hid hv1
                clear hv1
                (go_region_held3 (fun w' => w'.cell? ⟨wr.heap.size, 0, none⟩ = some (.int .i64 z0) ∧ w'.cell? ⟨wr.heap.size, 1, none⟩ = some (.int .i64 z1) ∧ w'.cell? ⟨wr.heap.size, 2, none⟩ = some (.int .i64 z2)) (first | exact HY.out | exact HKE.out _ | go_keep)
                  (first
                    | (go_at_call_of 97 z1; refine (HI1.out _ HX.out).mono ?_; rintro e w5 ⟨rfl, rfl⟩)
                    | (go_at_call_of 97 z2; refine (HI2.out _ HX.out).mono ?_; rintro e w5 ⟨rfl, rfl⟩)))
                go_wp2
                go_roundg (nG - (q + 1))
                case measure => omega
                case rel =>
                  refine ⟨q + 1, by omega, rfl, by go_num, ?_⟩
                  rw [HSN.out, HV1.out]
                  exact HX.out.set_ (by omega) (by omega) _ _
            · have hqe : nG = q := by omega
              subst hqe
              clear hst hlt hq
              go_wp2
              have := HST3.out
              rw [List.take_of_length_le (by rw [HNG.out]; exact Nat.le_refl _)] at this
              go_ret
              exact ⟨w.heap.size + 1, rfl, by omega, this.below, by rw [HT1.out, HT2.out]; exact this.tab⟩
end Go.Proofs.Ytbgdhfnfbahdhaa

namespace Go.Proofs.Ytbgdhfnfbahdhaa
open Go.RowKit

set_option maxHeartbeats 4000000 in
set_option maxRecDepth 100000 in
theorem looked_any (w : World) (V : CV) (C : Circ) (sv rv : Value) (st row : List Bool) (O : List Int) (h : C.In w V) (ok : C.Ok) (htn : ∀ s ∈ C.comments, s.size ≤ maxLen) (hs : RowE 1 encO w sv st) (hr : RowE 1 encO w rv row) (hO : (checkR C).2 = 0 → IsOrd C O) :
    Calls Try.prog 76 #[V.val C.max, sv, rv] w fun e w' => Below w.heap.size w w' ∧ ∃ v, e = .returned (.tuple #[v, .int .i64 (fitE C st row)]) ∧ (fitE C st row ≠ 0 → v = .slice none 0 0) ∧
      (fitE C st row = 0 → RowE 1 encI w' v O) := by
  have hord := rOrder_any (w.alloc (.cells (V.cells C.max) 29)) V C (h.below ((Below.refl w.heap.size w).alloc (Nat.le_refl _) _)) ok htn
  obtain ⟨AL, cL, eL, hml⟩ := len_form h.l
  obtain ⟨AI, cI, eI, hmi⟩ := len_form h.i
  have hsl := hs.len
  have hrl := hr.len
  have hall : ∀ wz, Below (w.alloc (.cells (V.cells C.max) 29)).heap.size (w.alloc (.cells (V.cells C.max) 29)) wz → Blk wz w.heap.size 29 (V.cells C.max) ∧ C.In wz V ∧ RowE 1 encO wz sv st ∧ RowE 1 encO wz rv row ∧ Below w.heap.size w wz := fun wz hb => by
    have h1 : Below w.heap.size w wz := ((Below.refl w.heap.size w).alloc (Nat.le_refl _) _).trans (hb.mono (by simp))
    exact ⟨(Blk.new w _ _).below hb (by simp), h.below h1, hs.below h1, hr.below h1, h1⟩
  have HX : Hid (Below (w.alloc (.cells (V.cells C.max) 29)).heap.size (w.alloc (.cells (V.cells C.max) 29)) (w.alloc (.cells (V.cells C.max) 29))) := Lib.hid (Below.refl _ _)
  obtain ⟨Vi, Vl, Vo, Vb, Vc, Vj, Vf, Va, Vs, Vt⟩ := V
  obtain ⟨m, hmm⟩ : ∃ m, C.max = m := ⟨_, rfl⟩
  simp only at eL eI
  subst eL eI
  obtain ⟨r, hrr⟩ : ∃ r, (checkR C).2 = r := ⟨_, rfl⟩
  rw [hmm] at hall HX hord
  rw [hrr] at hord
  rw [hmm]
  have hsv := hs
  have hrv := hr
  obtain ⟨sA, sc, rfl, _, _, _⟩ := hsv
  obtain ⟨rA, rc, rfl, _, _, _⟩ := hrv
  have HALL := Lib.hid hall
  have HORD := Lib.hid hord
  have HO := Lib.hid hO
  have HRR := Lib.hid hrr
  clear hall hord hO hmm h ok hs hr htn
  unfold maxLen at hml hmi hsl hrl
  obtain ⟨c0, c1, c2, c3, c4, c5, c6, c7, c8, c9, c10⟩ := rbox_of (HALL.out _ HX.out).1
  by_cases h0 : r = 0
  · subst h0
    by_cases h1 : st.length = C.latches.length
    · have hq : (((st.length : Nat) : Int) != ((C.latches.length : Nat) : Int)) = false := by simp [h1]
      by_cases h2 : row.length = C.inputs.length
      · have HF := Lib.hid (fitE_yes HRR.out h1 h2)
        have hq2 : (((row.length : Nat) : Int) != ((C.inputs.length : Nat) : Int)) = false := by simp [h2]
        have H1 := Lib.hid (And.intro h1 h2)
        clear h1 h2 hrr
        rw [HF.out]
        go_enter Try.func76, Try.ntmps76
        go_wp2_with (go_at_call 96; refine HORD.out.mono ?_; rintro e w1 ⟨hb, v1, out1, rfl, _, hyes⟩; obtain ⟨ho1, hg1, hl1⟩ := hyes rfl; obtain rfl := (HO.out HRR.out).same hg1 hl1; have HO1 := Lib.hid (own_rowe lenI (by rw [flat_ints]; exact ho1)); clear hyes ho1 hg1 hl1; have HXN := Lib.hid (bt HX.out (Nat.le_refl _) hb); clear HX hb c0 c1 c2 c3 c4 c5 c6 c7 c8 c9 c10; have HX := HXN; clear HXN; obtain ⟨c0, c1, c2, c3, c4, c5, c6, c7, c8, c9, c10⟩ := rbox_of (HALL.out _ HX.out).1)
        go_ret2
        exact ⟨(HALL.out _ HX.out).2.2.2.2, _, rfl, fun h => absurd rfl h, fun _ => HO1.out⟩
      · have HF := Lib.hid (fitE_not (C := C) (st := st) (row := row) HRR.out (fun h => h2 h.2))
        have hq2 : (((row.length : Nat) : Int) != ((C.inputs.length : Nat) : Int)) = true := by simp; omega
        have H1 := Lib.hid (And.intro h1 h2)
        clear h1 h2 hrr
        rw [HF.out]
        go_enter Try.func76, Try.ntmps76
        go_wp2_with (go_at_call 96; refine HORD.out.mono ?_; rintro e w1 ⟨hb, v1, out1, rfl, _, _⟩; have HXN := Lib.hid (bt HX.out (Nat.le_refl _) hb); clear HX hb c0 c1 c2 c3 c4 c5 c6 c7 c8 c9 c10; have HX := HXN; clear HXN; obtain ⟨c0, c1, c2, c3, c4, c5, c6, c7, c8, c9, c10⟩ := rbox_of (HALL.out _ HX.out).1)
        go_ret2
        exact ⟨(HALL.out _ HX.out).2.2.2.2, _, rfl, fun _ => rfl, fun h => absurd h (by decide)⟩
    · have hq : (((st.length : Nat) : Int) != ((C.latches.length : Nat) : Int)) = true := by simp; omega
      have HF := Lib.hid (fitE_not (C := C) (st := st) (row := row) HRR.out (fun h => h1 h.1))
      have H1 := Lib.hid h1
      clear h1 hrr
      rw [HF.out]
      go_enter Try.func76, Try.ntmps76
      go_wp2_with (go_at_call 96; refine HORD.out.mono ?_; rintro e w1 ⟨hb, v1, out1, rfl, _, _⟩; have HXN := Lib.hid (bt HX.out (Nat.le_refl _) hb); clear HX hb c0 c1 c2 c3 c4 c5 c6 c7 c8 c9 c10; have HX := HXN; clear HXN; obtain ⟨c0, c1, c2, c3, c4, c5, c6, c7, c8, c9, c10⟩ := rbox_of (HALL.out _ HX.out).1)
      go_ret2
      exact ⟨(HALL.out _ HX.out).2.2.2.2, _, rfl, fun _ => rfl, fun h => absurd h (by decide)⟩
  · have hq : (r != 0) = true := by simpa using h0
    have HF : Hid (fitE C st row = r) := Lib.hid (by rw [fitE_bad (by rw [HRR.out]; exact h0), HRR.out])
    have H0 := Lib.hid h0
    clear h0 hrr
    rw [HF.out]
    go_enter Try.func76, Try.ntmps76
    go_wp2_with (go_at_call 96; refine HORD.out.mono ?_; rintro e w1 ⟨hb, v1, out1, rfl, _, _⟩; have HXN := Lib.hid (bt HX.out (Nat.le_refl _) hb); clear HX hb c0 c1 c2 c3 c4 c5 c6 c7 c8 c9 c10; have HX := HXN; clear HXN; obtain ⟨c0, c1, c2, c3, c4, c5, c6, c7, c8, c9, c10⟩ := rbox_of (HALL.out _ HX.out).1)
    go_ret2
    exact ⟨(HALL.out _ HX.out).2.2.2.2, _, rfl, fun _ => rfl, fun h => absurd h H0.out⟩

set_option maxHeartbeats 4000000 in
set_option maxRecDepth 100000 in
theorem rValues_any (w : World) (V : CV) (C : Circ) (sv rv : Value) (st row : List Bool) (O : List Int) (h : C.In w V) (ok : C.Ok) (htn : ∀ s ∈ C.comments, s.size ≤ maxLen) (hs : RowE 1 encO w sv st) (hr : RowE 1 encO w rv row) (hO : (checkR C).2 = 0 → IsOrd C O) :
    Calls Try.prog 42 #[V.val C.max, sv, rv] w fun e w' => Below w.heap.size w w' ∧ ∃ v, e = .returned (.tuple #[v, .int .i64 (fitE C st row)]) ∧ (fitE C st row ≠ 0 → v = .slice none 0 0) ∧
      (fitE C st row = 0 → ∃ g, v = .slice (some ⟨g, 0, none⟩) (C.max.toNat + 1) (C.max.toNat + 1) ∧ w.heap.size ≤ g ∧ Tab w' g (valF C O st row)) := by
  have HVAL := Lib.hid (fun (wx : World) (hx : C.In wx V) (hy : RowE 1 encO wx sv st) (hz : RowE 1 encO wx rv row) => looked_any wx V C sv rv st row O hx ok htn hy hz hO)
  have HNX := Lib.hid (fun (wx : World) (gv : Value) (hx : C.In wx V) (hg : RowE 1 encI wx gv O) (hy : RowE 1 encO wx sv st) (hz : RowE 1 encO wx rv row) (h0 : fitE C st row = 0) => rValues0_any wx V C gv sv rv O st row hx hg hy hz (right_of (fitE_ok h0).1) (fitE_ok h0).2.1 (fitE_ok h0).2.2 (hO (fitE_ok h0).1).inR (by rw [(hO (fitE_ok h0).1).l]; exact (right_of (fitE_ok h0).1).na))
  have hall : ∀ wz, Below (w.alloc (.cells (V.cells C.max) 29)).heap.size (w.alloc (.cells (V.cells C.max) 29)) wz → Blk wz w.heap.size 29 (V.cells C.max) ∧ C.In wz V ∧ RowE 1 encO wz sv st ∧ RowE 1 encO wz rv row ∧ Below w.heap.size w wz := fun wz hb => by
    have h1 : Below w.heap.size w wz := ((Below.refl w.heap.size w).alloc (Nat.le_refl _) _).trans (hb.mono (by simp))
    exact ⟨(Blk.new w _ _).below hb (by simp), h.below h1, hs.below h1, hr.below h1, h1⟩
  have HX : Hid (Below (w.alloc (.cells (V.cells C.max) 29)).heap.size (w.alloc (.cells (V.cells C.max) 29)) (w.alloc (.cells (V.cells C.max) 29))) := Lib.hid (Below.refl _ _)
  obtain ⟨Vi, Vl, Vo, Vb, Vc, Vj, Vf, Va, Vs, Vt⟩ := V
  obtain ⟨m, hmm⟩ : ∃ m, C.max = m := ⟨_, rfl⟩
  rw [hmm] at hall HX HVAL HNX
  rw [hmm]
  obtain ⟨sA, sn, sc, esv⟩ := slO_form hs
  obtain ⟨rA, rn, rc, erv⟩ := slO_form hr
  subst esv erv
  obtain ⟨cA, cn, cc, ecv⟩ : ∃ A n c, Vc = .slice A n c := by obtain ⟨A, c, e, _⟩ := h.c; exact ⟨A, _, c, e⟩
  subst ecv
  have HALL := Lib.hid hall
  clear hall hmm h ok hs hr htn
  obtain ⟨c0, c1, c2, c3, c4, c5, c6, c7, c8, c9, c10⟩ := rbox_of (HALL.out _ HX.out).1
  by_cases h0 : fitE C st row = 0
  · have HF := Lib.hid h0
    rw [h0] at HVAL
    rw [h0]
    clear h0
    go_enter Try.func42, Try.ntmps42
    go_wp2_with (first
      | (go_at_call 76; refine (HVAL.out _ (HALL.out _ HX.out).2.1 (HALL.out _ HX.out).2.2.1 (HALL.out _ HX.out).2.2.2.1).mono ?_; rintro e w1 ⟨hb, v1, rfl, _, hyes⟩; have hg1 := hyes rfl; obtain ⟨gA, gn, gc, hge⟩ : ∃ A n c, v1 = .slice A n c := (by obtain ⟨A, c, e, _⟩ := hg1; exact ⟨A, _, c, e⟩); subst hge; have HG1 := Lib.hid hg1; clear hg1; clear hyes; have HXN := Lib.hid (bt HX.out (Nat.le_refl _) hb); clear HX hb c0 c1 c2 c3 c4 c5 c6 c7 c8 c9 c10; have HX := HXN; clear HXN; obtain ⟨c0, c1, c2, c3, c4, c5, c6, c7, c8, c9, c10⟩ := rbox_of (HALL.out _ HX.out).1)
      | (go_at_call 77; refine (HNX.out _ _ (HALL.out _ HX.out).2.1 HG1.out (HALL.out _ HX.out).2.2.1 (HALL.out _ HX.out).2.2.2.1 HF.out).mono ?_; rintro e w4 ⟨g, rfl, hg4, hb, ht4⟩; have HG4 := Lib.hid (And.intro (Nat.le_trans (HALL.out _ HX.out).2.2.2.2.size hg4) ht4); clear hg4 ht4; have HXN := Lib.hid (bt HX.out (Nat.le_refl _) hb); clear HX hb c0 c1 c2 c3 c4 c5 c6 c7 c8 c9 c10; have HX := HXN; clear HXN; obtain ⟨c0, c1, c2, c3, c4, c5, c6, c7, c8, c9, c10⟩ := rbox_of (HALL.out _ HX.out).1))
    go_ret2
    exact ⟨(HALL.out _ HX.out).2.2.2.2, _, rfl, fun h => absurd rfl h, fun _ => ⟨g, rfl, HG4.out.1, HG4.out.2⟩⟩
  · obtain ⟨r, hr⟩ : ∃ r, fitE C st row = r := ⟨_, rfl⟩
    rw [hr] at HVAL h0
    rw [hr]
    have hq : (r != 0) = true := by simpa using h0
    have H0 := Lib.hid h0
    clear h0 hr HNX
    go_enter Try.func42, Try.ntmps42
    go_wp2_with (go_at_call 76; refine (HVAL.out _ (HALL.out _ HX.out).2.1 (HALL.out _ HX.out).2.2.1 (HALL.out _ HX.out).2.2.2.1).mono ?_; rintro e w1 ⟨hb, v1, rfl, hno, _⟩; obtain rfl := hno H0.out; clear hno; have HXN := Lib.hid (bt HX.out (Nat.le_refl _) hb); clear HX hb c0 c1 c2 c3 c4 c5 c6 c7 c8 c9 c10; have HX := HXN; clear HXN; obtain ⟨c0, c1, c2, c3, c4, c5, c6, c7, c8, c9, c10⟩ := rbox_of (HALL.out _ HX.out).1)
    go_ret2
    exact ⟨(HALL.out _ HX.out).2.2.2.2, _, rfl, fun _ => rfl, fun h => absurd h H0.out⟩

end Go.Proofs.Ytbgdhfnfbahdhaa

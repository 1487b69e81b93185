import Derived.Test.YtjbglgmbnjdhcaaGreatSimB
import Derived.Test.YtjbglgmbnjdhcaaGreatSimE
namespace Go.Proofs.YtjbglgmbnjdhcaaGreat
open Go.RowKit

set_option maxHeartbeats 8000000 in
set_option maxRecDepth 100000 in
theorem rValues0_any (w : World) (V : CV) (C : Circ) (gv sv rv : Value) (gs : List Int) (st row : List Bool) (h : C.In w V) (hg : RowE 1 encI w gv gs) (hs : RowE 1 encO w sv st) (hr : RowE 1 encO w rv row)
 (hrt : Right C) (hls : st.length = C.latches.length) (hlr : row.length = C.inputs.length) (hG : ∀ g ∈ gs,0 ≤ g ∧ g < (C.ands.length : Int)) (hgl : gs.length ≤ 16384) :
 Calls Tryz.prog 73 #[V.val C.max,gv,sv,rv] w fun e w' => ∃ g,e = .returned (.slice (some ⟨g,0,none⟩) (C.max.toNat + 1) (C.max.toNat + 1)) ∧ w.heap.size ≤ g ∧ Below w.heap.size w w' ∧ Tab w' g (valF C gs st row):=by
 obtain ⟨m,hmm⟩ : ∃ m : Nat,C.max = (m : Int):=⟨C.max.toNat,by have:=hrt.m0; omega⟩
 have hm1:=hrt.m1
 have hmt : C.max.toNat = m:=by rw [hmm]; rfl
 have hvf : valF C gs st row = gatesT C gs (putF ((C.latches.map (·.1)).zip st) (putF (C.inputs.zip row) (List.replicate (m + 1) false))):=by unfold valF baseT; rw [hmt]
 rw [hmt,hvf]
 rw [hmm] at hm1 ⊢
 have hmk:=make_bools (m + 1) (by omega)
 push_cast at hmk
 have hn1:=hrt.ni
 have hn2:=hrt.nl
 have hn3:=hrt.na
 have HI : Hid (∀ l ∈ C.inputs,0 ≤ l ∧ l / 2 ≤ (m : Int)):=zH (fun l hl => by have:=hrt.i l hl; omega)
 have HL : Hid (∀ z ∈ C.latches,0 ≤ z.1 ∧ z.1 / 2 ≤ (m : Int)):=zH (fun z hz => by have:=(hrt.l z hz).1; omega)
 have HA : Hid (∀ z ∈ C.ands,(0 ≤ z.1 ∧ z.1 / 2 ≤ (m : Int)) ∧ (0 ≤ z.2.1 ∧ z.2.1 / 2 ≤ (m : Int)) ∧ (0 ≤ z.2.2 ∧ z.2.2 / 2 ≤ (m : Int))):=zH (fun z hz => by
  obtain ⟨a,b,c⟩:=hrt.a z hz
  unfold LitOk at b c
  rw [hmm] at a b c
  exact ⟨⟨by omega,a.2⟩,b,c⟩)
 obtain ⟨AI,cI,eI,_,_,rI⟩:=h.i
 obtain ⟨AL,cL,eL,_,_,rL⟩:=h.l
 obtain ⟨AA,cA,eA,_,_,rA⟩:=h.a
 obtain ⟨AG,cG,eG,_,_,rG⟩:=hg
 obtain ⟨AS,cS,eS,_,_,rS⟩:=hs
 obtain ⟨AR,cR,eR,_,_,rR⟩:=hr
 obtain ⟨Vi,Vl,Vo,Vb,Vc,Vj,Vf,Va,Vs,Vt⟩:=V
 simp only at eI eL eA
 subst eI eL eA eG eS eR
 rw [hls,hlr]
 have HS0 : Hid (VS w ((w.alloc (.cells #[.int .i64 m,.slice AI C.inputs.length cI,.slice AL C.latches.length cL,Vo,Vb,Vc,Vj,Vf,.slice AA C.ands.length cA,Vs,Vt] 29)).alloc (.cells (madeCells #[Value.bool false] (m + 1)) 4)) w.heap.size (w.heap.size + 1) (w.heap.size + 1) #[.int .i64 m,.slice AI C.inputs.length cI,.slice AL C.latches.length cL,Vo,Vb,Vc,Vj,Vf,.slice AA C.ands.length cA,Vs,Vt] (m + 1) (List.replicate (m + 1) false)):=by
  refine zH ⟨((Below.refl w.heap.size w).alloc zN _).alloc (by simp) _,(Blk.new w _ _).alloc _,?_,fun e => absurd rfl e⟩
  · unfold Tab
    rw [← made_bools]
    have:=(Blk.new (w.alloc (.cells #[.int .i64 m,.slice AI C.inputs.length cI,.slice AL C.latches.length cL,Vo,Vb,Vc,Vj,Vf,.slice AA C.ands.length cA,Vs,Vt] 29)) 4 (madeCells #[Value.bool false] (m + 1)))
    simpa using this
 have HRI:=zH rI
 have HRL:=zH rL
 have HRA:=zH rA
 have HRG:=zH rG
 have HRS:=zH rS
 have HRR:=zH rR
 have HG:=zH hG
 clear rI rL rA rG rS rR hG h hrt hmm hmt hvf
 generalize hnI : C.inputs.length = nI at *
 generalize hnL : C.latches.length = nL at *
 generalize hnA : C.ands.length = nA at *
 generalize hnG : gs.length = nG at *
 have HNI:=zH hnI
 have HNL:=zH hnL
 have HNA:=zH hnA
 have HNG:=zH hnG
 have HLR:=zH hlr
 have HLS:=zH hls
 clear hnI hnL hnA hnG hlr hls
 go_enter Tryz.func73,Tryz.ntmps73
 go_wp2
 go_loopg [10] nI (fun k j wx => ∃ q : Nat,q ≤ nI ∧ k = nI - q ∧ j = .int .i64 q ∧ VS w wx w.heap.size (w.heap.size + 1) (w.heap.size + 1) #[.int .i64 m,.slice AI nI cI,.slice AL nL cL,Vo,Vb,Vc,Vj,Vf,.slice AA nA cA,Vs,Vt] (m + 1) (putF ((C.inputs.zip row).take q) (List.replicate (m + 1) false)))
 case atStart => exact ⟨0,Nat.zero_le _,rfl,rfl,HS0.out⟩
 case round =>
  obtain ⟨q,hq,hgk,rfl,hst⟩:=hrel
  subst hgk
  have HST:=zH hst
  have bx:=hst.box
  have x1:=bx.cell 1
  have x2:=bx.cell 2
  have x8:=bx.cell 8
  simp only [List.getElem?_toArray,List.getElem?_cons_zero,List.getElem?_cons_succ] at x1 x2 x8
  clear bx
  by_cases hlt : q < nI
  · obtain ⟨l,hl⟩ : ∃ l,C.inputs[q]? = some l:=⟨_,List.getElem?_eq_getElem (by rw [HNI.out]; exact hlt)⟩
    obtain ⟨y,hy⟩ : ∃ y,row[q]? = some y:=⟨_,List.getElem?_eq_getElem (by rw [HLR.out]; exact hlt)⟩
    obtain ⟨b,off,e,hb,hcell⟩:=HRI.out q l hl
    subst e
    obtain ⟨b2,off2,e,hb2,hcell2⟩:=HRR.out q y hy
    subst e
    have h0:=(HST.out.below.cell (p:=⟨b,off + (q * 1 + 0),none⟩) hb).trans (hcell 0 _ rfl)
    have h1:=(HST.out.below.cell (p:=⟨b2,off2 + (q * 1 + 0),none⟩) hb2).trans (hcell2 0 _ rfl)
    simp only [Nat.mul_one,Nat.add_zero] at h0 h1
    obtain ⟨hl0,hl1⟩:=HI.out l (List.mem_of_getElem? hl)
    have hp:=zipT_snoc hl hy
    have HP:=zH hp
    have hq2:=tdiv_nn (b:=2) hl0
    have hq3 : 0 ≤ l / 2:=by omega
    have hq4 : l / 2 < (m : Int) + 1:=by omega
    have hlen : (putF ((C.inputs.zip row).take q) (List.replicate (m + 1) false)).length = m + 1:=by rw [putF_len]; simp
    have htl : (l / 2).toNat < (putF ((C.inputs.zip row).take q) (List.replicate (m + 1) false)).length:=by rw [hlen]; omega
    have hold:=hst.drew.tab.cell (getD_bool htl)
    have hfr:=Blk.frozen hst.drew.tab (l / 2).toNat
    have hgb:=Blk.lt hst.drew.tab
    have hq5 : l / 2 < ((m + 1 : Nat) : Int):=by push_cast; omega
    have hq8 : IntKind.i64.wrap (l / 2) = l / 2:=by simp [IntKind.wrap,IntKind.bits,IntKind.signed]; omega
    have hql : (q : Int) < (nI : Int):=by omega
    have hql0 : (0 : Int) ≤ (q : Int):=by omega
    clear hcell hcell2 hl hy hp hst hlen htl
    go_upto_region 5 with (fail)
    go_region
    go_wp2
    go_roundg (nI - (q + 1))
    case measure => omega
    case rel =>
     refine ⟨q + 1,by omega,rfl,by go_num,?_⟩
     rw [HP.out,putF_snoc]
     exact HST.out.drew.set_ (by omega) (by omega) _ _
  · have hqe : nI = q:=by omega
    subst hqe
    clear hst hlt hq
    have HB1 : Hid (putF ((C.inputs.zip row).take nI) (List.replicate (m + 1) false) = putF (C.inputs.zip row) (List.replicate (m + 1) false)):=zH (by rw [zipT_all HNI.out])
    have HL1 : Hid ((putF (C.inputs.zip row) (List.replicate (m + 1) false)).length = m + 1):=zH (by rw [putF_len]; simp)
    rw [HB1.out] at HST
    clear HB1
    obtain ⟨T1,hT1⟩ : ∃ T1,putF (C.inputs.zip row) (List.replicate (m + 1) false) = T1:=⟨_,rfl⟩
    rw [hT1] at HST HL1
    have HT1:=zH hT1
    clear hT1
    go_wp2
    go_loopg [11] nL (fun k j wx => ∃ q : Nat,q ≤ nL ∧ k = nL - q ∧ j = .int .i64 q ∧ VS w wx w.heap.size (w.heap.size + 1) (w.heap.size + 1) #[.int .i64 m,.slice AI nI cI,.slice AL nL cL,Vo,Vb,Vc,Vj,Vf,.slice AA nA cA,Vs,Vt] (m + 1) (putF (((C.latches.map (·.1)).zip st).take q) T1))
    case atStart => exact ⟨0,Nat.zero_le _,rfl,rfl,HST.out⟩
    case round =>
     obtain ⟨q,hq,hgk,rfl,hst⟩:=hrel
     subst hgk
     clear x1 x2 x8
     have HST2:=zH hst
     have bx:=hst.box
     have x1:=bx.cell 1
     have x2:=bx.cell 2
     have x8:=bx.cell 8
     simp only [List.getElem?_toArray,List.getElem?_cons_zero,List.getElem?_cons_succ] at x1 x2 x8
     clear bx
     by_cases hlt : q < nL
     · obtain ⟨z,hz⟩ : ∃ z,C.latches[q]? = some z:=⟨_,List.getElem?_eq_getElem (by rw [HNL.out]; exact hlt)⟩
       obtain ⟨y,hy⟩ : ∃ y,st[q]? = some y:=⟨_,List.getElem?_eq_getElem (by rw [HLS.out]; exact hlt)⟩
       obtain ⟨b,off,e,hb,hcell⟩:=HRL.out q z hz
       subst e
       obtain ⟨b2,off2,e,hb2,hcell2⟩:=HRS.out q y hy
       subst e
       have hl : (C.latches.map (·.1))[q]? = some z.1:=by rw [List.getElem?_map,hz]; rfl
       have hp:=zipT_snoc hl hy
       have HP:=zH hp
       have HZ:=zH (HL.out z (List.mem_of_getElem? hz))
       obtain ⟨z0,z1,z2⟩:=z
       have h0:=(HST2.out.below.cell (p:=⟨b,off + (q * 3 + 0),none⟩) hb).trans (hcell 0 _ rfl)
       have h1:=(HST2.out.below.cell (p:=⟨b,off + (q * 3 + 1),none⟩) hb).trans (hcell 1 _ rfl)
       have h2:=(HST2.out.below.cell (p:=⟨b,off + (q * 3 + 2),none⟩) hb).trans (hcell 2 _ rfl)
       simp only [Nat.add_zero,← Nat.add_assoc] at h0 h1 h2
       obtain ⟨hl0,hl1⟩:=HZ.out
       simp only at hl0 hl1
       have hq2:=tdiv_nn (b:=2) hl0
       have hq3 : 0 ≤ z0 / 2:=by omega
       have hq4 : z0 / 2 < (m : Int) + 1:=by omega
       have hlen : (putF (((C.latches.map (·.1)).zip st).take q) T1).length = m + 1:=by rw [putF_len,HL1.out]
       have htl : (z0 / 2).toNat < (putF (((C.latches.map (·.1)).zip st).take q) T1).length:=by rw [hlen]; omega
       have HX:=zH hst
       have hbX : Below wr.heap.size wr wr.drew:=(Below.refl _ _).drew
       have hbb2 : b2 < wr.heap.size:=Nat.lt_of_lt_of_le hb2 HST2.out.below.size
       have h3:=(HX.out.drew.below.cell (p:=⟨b2,off2 + (q * 1 + 0),none⟩) hb2).trans (hcell2 0 _ rfl)
       simp only [Nat.mul_one,Nat.add_zero] at h3
       have hold:=HX.out.drew.tab.cell (getD_bool htl)
       have hfr:=Blk.frozen HX.out.drew.tab (z0 / 2).toNat
       have hgb:=Blk.lt HX.out.drew.tab
       have hql : (q : Int) < (nL : Int):=by omega
       have hql0 : (0 : Int) ≤ (q : Int):=by omega
       clear hcell hcell2 hz hl hy hp hst hlen htl hbX
       have hq5 : z0 / 2 < ((m + 1 : Nat) : Int):=by push_cast; omega
       have hq8 : IntKind.i64.wrap (z0 / 2) = z0 / 2:=by simp [IntKind.wrap,IntKind.bits,IntKind.signed]; omega
       go_upto_region 9 with (fail)
       go_region
       go_wp2
       go_roundg (nL - (q + 1))
       case measure => omega
       case rel =>
        refine ⟨q + 1,by omega,rfl,by go_num,?_⟩
        rw [HP.out,putF_snoc]
        exact HX.out.drew.set_ (by omega) (by omega) _ _
     · have hqe : nL = q:=by omega
       subst hqe
       clear hst hlt hq
       have HB2 : Hid (putF (((C.latches.map (·.1)).zip st).take nL) T1 = putF ((C.latches.map (·.1)).zip st) T1):=zH (by rw [zipT_all (by rw [List.length_map]; exact HNL.out)])
       have HL2 : Hid ((putF ((C.latches.map (·.1)).zip st) T1).length = m + 1):=zH (by rw [putF_len]; exact HL1.out)
       rw [HB2.out] at HST2
       clear HB2
       obtain ⟨T2,hT2⟩ : ∃ T2,putF ((C.latches.map (·.1)).zip st) T1 = T2:=⟨_,rfl⟩
       rw [hT2] at HST2 HL2
       have HT2:=zH hT2
       clear hT2
       go_wp2
       go_loopg [12] nG (fun k j wx => ∃ q : Nat,q ≤ nG ∧ k = nG - q ∧ j = .int .i64 q ∧ VS w wx w.heap.size (w.heap.size + 1) (w.heap.size + 1) #[.int .i64 m,.slice AI nI cI,.slice AL nL cL,Vo,Vb,Vc,Vj,Vf,.slice AA nA cA,Vs,Vt] (m + 1) (gatesT C (gs.take q) T2))
       case atStart => exact ⟨0,Nat.zero_le _,rfl,rfl,HST2.out⟩
       case round =>
        obtain ⟨q,hq,hgk,rfl,hst⟩:=hrel
        subst hgk
        clear x1 x2 x8
        have HST3:=zH hst
        have bx:=hst.box
        have x1:=bx.cell 1
        have x2:=bx.cell 2
        have x8:=bx.cell 8
        simp only [List.getElem?_toArray,List.getElem?_cons_zero,List.getElem?_cons_succ] at x1 x2 x8
        clear bx
        by_cases hlt : q < nG
        · obtain ⟨gq,hgq⟩ : ∃ gq,gs[q]? = some gq:=⟨_,List.getElem?_eq_getElem (by rw [HNG.out]; exact hlt)⟩
          obtain ⟨hg0,hg1⟩:=HG.out gq (List.mem_of_getElem? hgq)
          obtain ⟨gn,rfl⟩ : ∃ n : Nat,gq = (n : Int):=⟨gq.toNat,by omega⟩
          obtain ⟨z,hz⟩ : ∃ z,C.ands[gn]? = some z:=⟨_,List.getElem?_eq_getElem (by rw [HNA.out]; omega)⟩
          have HGT : Hid (∀ T,gateT C T (gn : Int) = T.set (z.1 / 2).toNat (litV T z.2.1 && litV T z.2.2)):=zH (fun T => by
           unfold gateT
           have : C.ands.getD (gn : Int).toNat (0,0,0) = z:=by simp [List.getD,hz]
           rw [this])
          have HP:=zH (gsT_snoc hgq)
          obtain ⟨b,off,e,hb,hcell⟩:=HRG.out q _ hgq
          subst e
          have h0:=(HST3.out.below.cell (p:=⟨b,off + (q * 1 + 0),none⟩) hb).trans (hcell 0 _ rfl)
          simp only [Nat.mul_one,Nat.add_zero] at h0
          have HZ:=zH (HA.out z (List.mem_of_getElem? hz))
          obtain ⟨b2,off2,e2,hb2,hcell2⟩:=HRA.out gn z hz
          subst e2
          obtain ⟨z0,z1,z2⟩:=z
          have h3:=(HST3.out.below.cell (p:=⟨b2,off2 + (gn * 3 + 0),none⟩) hb2).trans (hcell2 0 _ rfl)
          have h4:=(HST3.out.below.cell (p:=⟨b2,off2 + (gn * 3 + 1),none⟩) hb2).trans (hcell2 1 _ rfl)
          have h5:=(HST3.out.below.cell (p:=⟨b2,off2 + (gn * 3 + 2),none⟩) hb2).trans (hcell2 2 _ rfl)
          simp only [Nat.add_zero,← Nat.add_assoc] at h3 h4 h5
          have HTL : Hid ((gatesT C (gs.take q) T2).length = m + 1):=zH (by rw [gatesT_len]; exact HL2.out)
          have HSN : Hid (gatesT C (gs.take (q + 1)) T2 = (gatesT C (gs.take q) T2).set (z0 / 2).toNat (litV (gatesT C (gs.take q) T2) z1 && litV (gatesT C (gs.take q) T2) z2)):=zH (by rw [HP.out,gatesT_snoc,HGT.out])
          clear hcell hcell2 hz hgq HGT HP
          generalize gatesT C (gs.take q) T2 = T at *
          obtain ⟨⟨a0,a1⟩,⟨b0,b1⟩,⟨c0,c1⟩⟩:=HZ.out
          simp only at a0 a1 b0 b1 c0 c1
          have hq2:=tdiv_nn (b:=2) a0
          have hq3 : 0 ≤ z0 / 2:=by omega
          have hq4 : z0 / 2 < (m : Int) + 1:=by omega
          have htl : (z0 / 2).toNat < T.length:=by rw [HTL.out]; omega
          have HX:=zH ((hst.alloc (.cells #[.int .i64 z0,.int .i64 z1,.int .i64 z2] 48)).drew.drew)
          have HIS : Hid (∀ (wx : World) (l : Int),VS w wx w.heap.size (w.heap.size + 1) (w.heap.size + 1) #[.int .i64 m,.slice AI nI cI,.slice AL nL cL,Vo,Vb,Vc,Vj,Vf,.slice (some ⟨b2,off2,none⟩) nA cA,Vs,Vt] (m + 1) T → 0 ≤ l → l / 2 ≤ (m : Int) → Calls Tryz.prog 86 #[.slice (some ⟨w.heap.size + 1,0,none⟩) (m + 1) (m + 1),.int .i64 l] wx fun e w' => e = .returned (.bool (litV T l)) ∧ w' = wx):=zH (fun wx l hx h0 h1 => by
           have hv:=tabT_row hx.tab (by rw [HTL.out]; unfold maxLen; omega)
           rw [HTL.out] at hv
           exact sLit_any wx _ T l hv h0 (by rw [HTL.out]; push_cast; omega) (by omega))
          have hold:=HX.out.tab.cell (getD_bool htl)
          have hfr:=Blk.frozen HX.out.tab (z0 / 2).toNat
          have hgb:=Blk.lt HX.out.tab
          have hnb : Blk ((wr.alloc (.cells #[.int .i64 z0,.int .i64 z1,.int .i64 z2] 48)).drew.drew) wr.heap.size 48 #[.int .i64 z0,.int .i64 z1,.int .i64 z2]:=(Blk.new wr _ _).drew.drew
          have hne : w.heap.size + 1 ≠ wr.heap.size:=by have:=Blk.lt hst.tab; omega
          have HKE : Hid (∀ b : Bool,(((wr.alloc (.cells #[.int .i64 z0,.int .i64 z1,.int .i64 z2] 48)).drew.drew).setCell ⟨w.heap.size + 1,(z0 / 2).toNat,none⟩ (.bool b)).cell? ⟨wr.heap.size,0,none⟩ = some (.int .i64 z0) ∧ (((wr.alloc (.cells #[.int .i64 z0,.int .i64 z1,.int .i64 z2] 48)).drew.drew).setCell ⟨w.heap.size + 1,(z0 / 2).toNat,none⟩ (.bool b)).cell? ⟨wr.heap.size,1,none⟩ = some (.int .i64 z1) ∧ (((wr.alloc (.cells #[.int .i64 z0,.int .i64 z1,.int .i64 z2] 48)).drew.drew).setCell ⟨w.heap.size + 1,(z0 / 2).toNat,none⟩ (.bool b)).cell? ⟨wr.heap.size,2,none⟩ = some (.int .i64 z2)):=zH (fun b => by
           have e:=Blk.far hnb (p:=⟨w.heap.size + 1,(z0 / 2).toNat,none⟩) (by simpa using Ne.symm hne) (.bool b)
           exact ⟨e.cell 0,e.cell 1,e.cell 2⟩)
          have y0:=hnb.cell 0
          have y1:=hnb.cell 1
          have y2:=hnb.cell 2
          simp only [List.getElem?_toArray,List.getElem?_cons_zero,List.getElem?_cons_succ] at y0 y1 y2
          have HY:=zH (And.intro y0 (And.intro y1 y2))
          have hgnl : (gn : Int) < (nA : Int):=by omega
          have hgn0 : (0 : Int) ≤ (gn : Int):=by omega
          have HBC:=zH (And.intro (And.intro b0 b1) (And.intro c0 c1))
          clear hst htl hnb y0 y1 y2 b0 b1 c0 c1
          have hbX : Below wr.heap.size wr ((wr.alloc (.cells #[.int .i64 0,.int .i64 0,.int .i64 0] 48)).drew):=((Below.refl _ _).alloc zN _).drew
          have hbw : b < wr.heap.size:=Nat.lt_of_lt_of_le hb HST3.out.below.size
          have hbw2 : b2 < wr.heap.size:=Nat.lt_of_lt_of_le hb2 HST3.out.below.size
          have k0:=(hbX.cell (p:=⟨b,off + q,none⟩) hbw).trans h0
          have k3:=(hbX.cell (p:=⟨b2,off2 + gn * 3,none⟩) hbw2).trans h3
          have k4:=(hbX.cell (p:=⟨b2,off2 + gn * 3 + 1,none⟩) hbw2).trans h4
          have k5:=(hbX.cell (p:=⟨b2,off2 + gn * 3 + 2,none⟩) hbw2).trans h5
          have k8:=(hbX.cell (p:=⟨w.heap.size,8,none⟩) (by have:=Blk.lt HST3.out.box; exact this)).trans x8
          have hql : (q : Int) < (nG : Int):=by omega
          have hql0 : (0 : Int) ≤ (q : Int):=by omega
          clear hbX
          go_upto_region 13 with (fail)
          go_region
          go_upto_region 14 with (fail)
          clear k0 k3 k4 k5 k8
          have hq5 : z0 / 2 < ((m + 1 : Nat) : Int):=by push_cast; omega
          have hq6 : z0.tdiv 2 < ((m + 1 : Nat) : Int):=by rw [hq2]; exact hq5
          have hq7 : 0 ≤ z0.tdiv 2:=by rw [hq2]; exact hq3
          have hq8 : IntKind.i64.wrap (z0 / 2) = z0 / 2:=by simp [IntKind.wrap,IntKind.bits,IntKind.signed]; omega
          have hq9 : ¬ z0 / 2 < 0:=by omega
          cases hv1 : litV T z1
          · have HI1 : Hid (∀ wx,VS w wx w.heap.size (w.heap.size + 1) (w.heap.size + 1) #[.int .i64 m,.slice AI nI cI,.slice AL nL cL,Vo,Vb,Vc,Vj,Vf,.slice (some ⟨b2,off2,none⟩) nA cA,Vs,Vt] (m + 1) T → Calls Tryz.prog 86 #[.slice (some ⟨w.heap.size + 1,0,none⟩) (m + 1) (m + 1),.int .i64 z1] wx fun e w' => e = .returned (.bool false) ∧ w' = wx):=zH (fun wx hx => by have:=HIS.out wx z1 hx HBC.out.1.1 HBC.out.1.2; rwa [hv1] at this)
            have HV1:=zH hv1
            clear hv1
            first | (go_region_with (go_at_call_of 86 z1; refine (HI1.out _ ?_).mono ?_; exact HX.out; rintro e w5 ⟨rfl,rfl⟩)) | fail
            all_goals go_wp2
            all_goals go_roundg (nG - (q + 1))
            all_goals first
             | omega
             | (refine ⟨q + 1,by omega,rfl,by go_num,?_⟩
                rw [HSN.out,HV1.out]
                exact HX.out.set_ (by omega) (by omega) _ _)
          · have HI1 : Hid (∀ wx,VS w wx w.heap.size (w.heap.size + 1) (w.heap.size + 1) #[.int .i64 m,.slice AI nI cI,.slice AL nL cL,Vo,Vb,Vc,Vj,Vf,.slice (some ⟨b2,off2,none⟩) nA cA,Vs,Vt] (m + 1) T → Calls Tryz.prog 86 #[.slice (some ⟨w.heap.size + 1,0,none⟩) (m + 1) (m + 1),.int .i64 z1] wx fun e w' => e = .returned (.bool true) ∧ w' = wx):=zH (fun wx hx => by have:=HIS.out wx z1 hx HBC.out.1.1 HBC.out.1.2; rwa [hv1] at this)
            have HI2 : Hid (∀ wx,VS w wx w.heap.size (w.heap.size + 1) (w.heap.size + 1) #[.int .i64 m,.slice AI nI cI,.slice AL nL cL,Vo,Vb,Vc,Vj,Vf,.slice (some ⟨b2,off2,none⟩) nA cA,Vs,Vt] (m + 1) T → Calls Tryz.prog 86 #[.slice (some ⟨w.heap.size + 1,0,none⟩) (m + 1) (m + 1),.int .i64 z2] wx fun e w' => e = .returned (.bool (litV T z2)) ∧ w' = wx):=zH (fun wx hx => HIS.out wx z2 hx HBC.out.2.1 HBC.out.2.2)
            have HV1:=zH hv1
            clear hv1
            (go_region_held3 (fun w' => w'.cell? ⟨wr.heap.size,0,none⟩ = some (.int .i64 z0) ∧ w'.cell? ⟨wr.heap.size,1,none⟩ = some (.int .i64 z1) ∧ w'.cell? ⟨wr.heap.size,2,none⟩ = some (.int .i64 z2)) (first | exact HY.out | exact HKE.out _ | go_keep)
              (first
                | (go_at_call_of 86 z1; refine (HI1.out _ HX.out).mono ?_; rintro e w5 ⟨rfl,rfl⟩)
                | (go_at_call_of 86 z2; refine (HI2.out _ HX.out).mono ?_; rintro e w5 ⟨rfl,rfl⟩)))
            go_wp2
            go_roundg (nG - (q + 1))
            case measure => omega
            case rel =>
             refine ⟨q + 1,by omega,rfl,by go_num,?_⟩
             rw [HSN.out,HV1.out]
             exact HX.out.set_ (by omega) (by omega) _ _
        · have hqe : nG = q:=by omega
          subst hqe
          clear hst hlt hq
          go_wp2
          have:=HST3.out
          rw [List.take_of_length_le (by rw [HNG.out]; exact Nat.le_refl _)] at this
          go_ret
          exact ⟨w.heap.size + 1,rfl,by omega,this.below,by rw [HT1.out,HT2.out]; exact this.tab⟩
open Go.RowKit

set_option maxHeartbeats 4000000 in
set_option maxRecDepth 100000 in
theorem rNext0_any (w : World) (V : CV) (C : Circ) (v : Value) (T : List Bool) (h : C.In w V) (hrt : Right C) (hv : RowE 1 encO w v T) (hT : T.length = C.max.toNat + 1) :
 Calls Tryz.prog 75 #[V.val C.max,v] w fun e w' => ∃ g,e = .returned (.slice (some ⟨g,0,none⟩) C.latches.length C.latches.length) ∧ w.heap.size ≤ g ∧ Below w.heap.size w w' ∧ Tab w' g (nextF C T):=by
 have hnl:=hrt.nl
 have hm0:=hrt.m0
 have hm1:=hrt.m1
 have hmk:=make_bools C.latches.length (by omega)
 have HL : Hid (∀ z ∈ C.latches,0 ≤ z.2.1 ∧ z.2.1 / 2 ≤ C.max):=zH (fun z hz => by have:=(hrt.l z hz).2.1; unfold LitOk at this; exact this)
 have HIS : Hid (∀ (wx : World) (l : Int),Below w.heap.size w wx → 0 ≤ l → l / 2 ≤ C.max → Calls Tryz.prog 86 #[v,.int .i64 l] wx fun e w' => e = .returned (.bool (litV T l)) ∧ w' = wx):=zH (fun wx l hx h0 h1 =>
  sLit_any wx v T l (hv.below hx) h0 (by rw [hT]; omega) (by omega))
 obtain ⟨vA,vn,vc,hve⟩:=slO_form hv
 subst hve
 obtain ⟨AL,cL,eL,_,_,rL⟩:=h.l
 obtain ⟨Vi,Vl,Vo,Vb,Vc,Vj,Vf,Va,Vs,Vt⟩:=V
 simp only at eL
 subst eL
 have HRL:=zH rL
 have HNX:=zH (nextF_len C T)
 have HNA:=zH (fun (k : Nat) (z : Tri) (hz : C.latches[k]? = some z) => nextF_at (T:=T) hz)
 have HS0 : Hid (NS w ((w.alloc (.cells #[.int .i64 C.max,Vi,.slice AL C.latches.length cL,Vo,Vb,Vc,Vj,Vf,Va,Vs,Vt] 29)).alloc (.cells (madeCells #[Value.bool false] C.latches.length) 4)) w.heap.size (w.heap.size + 1) #[.int .i64 C.max,Vi,.slice AL C.latches.length cL,Vo,Vb,Vc,Vj,Vf,Va,Vs,Vt] (List.replicate C.latches.length false)):=by
  refine zH ⟨((Below.refl w.heap.size w).alloc zN _).alloc (by simp) _,(Blk.new w _ _).alloc _,?_⟩
  unfold Tab
  rw [← made_bools]
  have:=Blk.new (w.alloc (.cells #[.int .i64 C.max,Vi,.slice AL C.latches.length cL,Vo,Vb,Vc,Vj,Vf,Va,Vs,Vt] 29)) 4 (madeCells #[Value.bool false] C.latches.length)
  simpa using this
 obtain ⟨n,hn⟩ : ∃ n,C.latches.length = n:=⟨_,rfl⟩
 obtain ⟨m,hmm⟩ : ∃ m,C.max = m:=⟨_,rfl⟩
 rw [hn] at HNX hnl HS0 hmk
 rw [hmm] at HL HIS HS0 hm0 hm1
 rw [hn,hmm]
 have HN:=zH hn
 have HMM:=zH hmm
 clear rL h hrt hv hT hn hmm
 generalize nextF C T = L at *
 go_enter Tryz.func75,Tryz.ntmps75
 go_wp2
 go_loopg [6] n (fun k j wx => ∃ q : Nat,q ≤ n ∧ k = n - q ∧ j = .int .i64 q ∧ NS w wx w.heap.size (w.heap.size + 1) #[.int .i64 m,Vi,.slice AL n cL,Vo,Vb,Vc,Vj,Vf,Va,Vs,Vt] (L.take q ++ List.replicate (n - q) false))
 case atStart => exact ⟨0,Nat.zero_le _,rfl,rfl,HS0.out⟩
 case round =>
  obtain ⟨q,hq,hgk,rfl,hst⟩:=hrel
  subst hgk
  have HST:=zH hst
  have x2:=hst.box.cell 2
  simp only [List.getElem?_toArray,List.getElem?_cons_zero,List.getElem?_cons_succ] at x2
  clear hst
  by_cases hlt : q < n
  · obtain ⟨z,hz⟩ : ∃ z,C.latches[q]? = some z:=⟨_,List.getElem?_eq_getElem (by rw [HN.out]; exact hlt)⟩
    obtain ⟨b,off,e,hb,hcell⟩:=HRL.out q z hz
    subst e
    have HZ:=zH (HL.out z (List.mem_of_getElem? hz))
    have HX:=zH (HNA.out q z hz)
    obtain ⟨z0,z1,z2⟩:=z
    have h1:=(HST.out.below.cell (p:=⟨b,off + (q * 3 + 1),none⟩) hb).trans (hcell 1 _ rfl)
    simp only [← Nat.add_assoc] at h1
    have htl : q < (L.take q ++ List.replicate (n - q) false).length:=by rw [fillT_len HNX.out hq]; exact hlt
    have hold:=HST.out.tab.cell (getD_bool htl)
    have hfr:=Blk.frozen HST.out.tab q
    have hgb:=Blk.lt HST.out.tab
    clear hcell hz htl
    go_wp2_with (go_at_call 86; refine (HIS.out _ z1 HST.out.below HZ.out.1 HZ.out.2).mono ?_; rintro e w5 ⟨rfl,rfl⟩)
    go_roundg (n - (q + 1))
    case measure => omega
    case rel =>
     refine ⟨q + 1,by omega,rfl,by go_num,?_⟩
     rw [← fillT_set HNX.out HX.out]
     exact HST.out.set_ (by omega) (by omega) _ _
  · have hqe : n = q:=by omega
    subst hqe
    have hend:=HST.out
    rw [fillT_end HNX.out] at hend
    have HE:=zH hend
    clear hlt hq hend
    go_wp2
    go_ret
    exact ⟨w.heap.size + 1,rfl,by omega,HE.out.below,HE.out.tab⟩

set_option maxHeartbeats 4000000 in
set_option maxRecDepth 100000 in
theorem rAll_any (w : World) (v lv : Value) (T : List Bool) (zs : List Int) (hv : RowE 1 encO w v T) (hl : RowE 1 encI w lv zs) (hz : ∀ z ∈ zs,0 ≤ z ∧ z / 2 < (T.length : Int)) (hT : T.length ≤ 100000) (hnl : zs.length ≤ 100000) :
 Calls Tryz.prog 87 #[v,lv] w fun e w' => e = .returned (.bool (zs.all (litV T))) ∧ w' = w:=by
 have HL:=zH hz
 have HIS : Hid (∀ (l : Int),0 ≤ l → l / 2 < (T.length : Int) → Calls Tryz.prog 86 #[v,.int .i64 l] w fun e w' => e = .returned (.bool (litV T l)) ∧ w' = w):=zH (fun l h0 h1 =>
  sLit_any w v T l hv h0 h1 (by omega))
 obtain ⟨vA,vn,vc,hve⟩:=slO_form hv
 subst hve
 obtain ⟨AC,cC,eC,_,_,rC⟩:=hl
 subst eC
 have HRC:=zH rC
 obtain ⟨r,hr⟩ : ∃ r,zs.all (litV T) = r:=⟨_,rfl⟩
 have HH:=zH hr
 obtain ⟨n,hn⟩ : ∃ n,zs.length = n:=⟨_,rfl⟩
 rw [hn] at hnl
 rw [hn,hr]
 have HN:=zH hn
 clear rC hv hz hT hn hr
 go_enter Tryz.func87,Tryz.ntmps87
 go_wp2
 go_loopg [5] n (fun k j wx => ∃ q : Nat,q ≤ n ∧ k = n - q ∧ j = .int .i64 q ∧ (zs.take q).all (litV T) = true ∧ wx = w)
 case atStart => exact ⟨0,Nat.zero_le _,rfl,rfl,rfl,rfl⟩
 case round =>
  obtain ⟨q,hq,hgk,rfl,hal,hwx⟩:=hrel
  subst hgk hwx
  have HAL:=zH hal
  clear hal
  by_cases hlt : q < n
  · obtain ⟨z,hz⟩ : ∃ z,zs[q]? = some z:=⟨_,List.getElem?_eq_getElem (by rw [HN.out]; exact hlt)⟩
    obtain ⟨b,off,e,hb,hcell⟩:=HRC.out q z hz
    subst e
    have HZ:=zH (HL.out z (List.mem_of_getElem? hz))
    have h0:=hcell 0 _ rfl
    simp only [Nat.mul_one,Nat.add_zero] at h0
    have HP : Hid (zs.take (q + 1) = zs.take q ++ [z]):=zH (by rw [List.take_add_one,hz]; rfl)
    have HMEM:=zH (List.mem_of_getElem? hz)
    clear hcell hz
    have hcall:=HIS.out z HZ.out.1 HZ.out.2
    cases hlv : litV T z
    · rw [hlv] at hcall
      have HC:=zH hcall
      have HR : Hid (r = false):=zH (by rw [← HH.out,List.all_eq_false]; exact ⟨z,HMEM.out,by rw [hlv]; decide⟩)
      clear hcall hlv
      go_wp2_with (go_at_call 86; refine HC.out.mono ?_; rintro e w5 ⟨rfl,rfl⟩)
      go_ret
      exact ⟨ret_bool HR.out.symm,rfl⟩
    · rw [hlv] at hcall
      have HC:=zH hcall
      have HR : Hid ((zs.take (q + 1)).all (litV T) = true):=zH (by rw [HP.out,List.all_append,HAL.out]; simp [hlv])
      clear hcall hlv
      go_wp2_with (go_at_call 86; refine HC.out.mono ?_; rintro e w5 ⟨rfl,rfl⟩)
      go_roundg (n - (q + 1))
      case measure => omega
      case rel => exact ⟨q + 1,by omega,rfl,by go_num,HR.out,rfl⟩
  · have hqe : n = q:=by omega
    subst hqe
    have HR : Hid (r = true):=zH (by
     have:=HAL.out
     rw [List.take_of_length_le (by rw [HN.out]; exact Nat.le_refl _)] at this
     rw [← HH.out]; exact this)
    clear hlt hq
    go_wp2
    go_ret
    exact ⟨ret_bool HR.out.symm,rfl⟩

end Go.Proofs.YtjbglgmbnjdhcaaGreat

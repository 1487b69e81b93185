import Derived.Test.YtjbglgmbnjdhcaaGreatSimB
import Derived.Test.YtjbglgmbnjdhcaaGreatRfO
namespace Go.Proofs.YtjbglgmbnjdhcaaGreat
open Go.RowKit

structure IsOrd (C : Circ) (O : List Int) : Prop where
 g : Greedy (usesC C) O
 l : O.length = C.ands.length
theorem IsOrd.same {C : Circ} {O P : List Int} (h : IsOrd C O) (g : Greedy (usesC C) P) (l : P.length = C.ands.length) : P = O := greedy_same _ g h.g l h.l
theorem IsOrd.inR {C : Circ} {O : List Int} (h : IsOrd C O) : ∀ x ∈ O,0 ≤ x ∧ x < (C.ands.length : Int) := fun x hx => by
 have:=h.g.inR x hx
 unfold InR at this
 rw [usesC_len] at this
 exact this
theorem ord_ex {w : World} {V : CV} {C : Circ} (h : C.In w V) (ok : C.Ok) : ∃ O,(checkR C).2 = 0 → IsOrd C O := by
 obtain ⟨e,w',fr,⟨_,v,out,_,_,hr⟩,_⟩:=Order_any w V C h ok []
 exact ⟨out,fun h0 => ⟨(hr h0).2.1,(hr h0).2.2⟩⟩
theorem fillT_set {L : List Bool} {n k : Nat} {x : Bool} (hl : L.length = n) (hx : L[k]? = some x) : (L.take k ++ List.replicate (n - k) false).set k x = L.take (k + 1) ++ List.replicate (n - (k + 1)) false := by
 have hk : k < n:=by rw [← hl]; exact (List.getElem?_eq_some_iff.1 hx).1
 obtain ⟨d,hd⟩ : ∃ d,n - k = d + 1:=⟨n - k - 1,by omega⟩
 have hd2 : n - (k + 1) = d:=by omega
 have htl : (L.take k).length = k:=by rw [List.length_take]; omega
 rw [hd,hd2,List.set_append_right _ _ (by omega),htl,Nat.sub_self,List.replicate_succ,List.set_cons_zero,List.take_add_one,hx]
 simp
theorem fillT_len {L : List Bool} {n k : Nat} (hl : L.length = n) (hk : k ≤ n) : (L.take k ++ List.replicate (n - k) false).length = n := by simp; omega
theorem fillT_end {L : List Bool} {n : Nat} (hl : L.length = n) : L.take n ++ List.replicate (n - n) false = L := by simp [List.take_of_length_le (Nat.le_of_eq hl)]
theorem nextF_len (C : Circ) (T : List Bool) : (nextF C T).length = C.latches.length := by simp [nextF]
theorem nextF_at {C : Circ} {T : List Bool} {k : Nat} {z : Tri} (h : C.latches[k]? = some z) : (nextF C T)[k]? = some (litV T z.2.1) := by simp [nextF,List.getElem?_map,h]
structure NS (w0 wr : World) (bx g : Nat) (cs : Array Value) (T : List Bool) : Prop where
 below : Below w0.heap.size w0 wr
 box : Blk wr bx 29 cs
 tab : Tab wr g T
theorem NS.alloc {w0 wr : World} {bx g : Nat} {cs : Array Value} {T : List Bool} (h : NS w0 wr bx g cs T) (o : Obj) : NS w0 (wr.alloc o) bx g cs T := ⟨h.below.alloc h.below.size o,h.box.alloc o,Blk.alloc h.tab o⟩
theorem NS.set_ {w0 wr : World} {bx g : Nat} {cs : Array Value} {T : List Bool} (h : NS w0 wr bx g cs T) (hB : w0.heap.size ≤ g) (hx : bx ≠ g) (i : Nat) (b : Bool) : NS w0 (wr.setCell ⟨g,i,none⟩ (.bool b)) bx g cs (T.set i b) :=
 ⟨h.below.setCell hB _,Blk.far h.box (by simpa using hx) _,Tab.set_ h.tab i b⟩

set_option maxHeartbeats 4000000 in
set_option maxRecDepth 100000 in
theorem nextOf_any (w : World) (V : CV) (C : Circ) (bq : Nat) (v : Value) (T : List Bool) (h : C.In w V) (hrt : Right C) (hc : w.cell? ⟨bq,0,none⟩ = some v) (hbq : bq < w.heap.size) (hv : RowE 1 encO w v T) (hT : T.length = C.max.toNat + 1) :
 Calls Tryz.prog 69 #[V.val C.max,isV bq] w fun e w' => ∃ g,e = .returned (.slice (some ⟨g,0,none⟩) C.latches.length C.latches.length) ∧ w.heap.size ≤ g ∧ Below w.heap.size w w' ∧ Tab w' g (nextF C T):=by
 have hnl:=hrt.nl
 have hm0:=hrt.m0
 have hm1:=hrt.m1
 have hmk:=make_bools C.latches.length (by omega)
 have HL : Hid (∀ z ∈ C.latches,0 ≤ z.2.1 ∧ z.2.1 / 2 ≤ C.max):=zH (fun z hz => by have:=(hrt.l z hz).2.1; unfold LitOk at this; exact this)
 have HIS : Hid (∀ (wx : World) (l : Int),Below w.heap.size w wx → 0 ≤ l → l / 2 ≤ C.max → Calls Tryz.prog 82 #[.int .i64 l,.pointer (some ⟨bq,0,none⟩)] wx fun e w' => e = .returned (.bool (litV T l)) ∧ w' = wx):=zH (fun wx l hx h0 h1 =>
  is_any wx bq v T l ((hx.cell (p:=⟨bq,0,none⟩) hbq).trans hc) (hv.below hx) h0 (by rw [hT]; omega) (by omega))
 obtain ⟨AL,cL,eL,_,_,rL⟩:=h.l
 obtain ⟨Vi,Vl,Vo,Vb,Vc,Vj,Vf,Va,Vs,Vt⟩:=V
 simp only at eL
 subst eL
 have HRL:=zH rL
 have HNX:=zH (nextF_len C T)
 have HNA:=zH (fun (k : Nat) (z : Tri) (hz : C.latches[k]? = some z) => nextF_at (T:=T) hz)
 have HS0 : Hid (NS w ((w.alloc (.cells #[.int .i64 C.max,Vi,.slice AL C.latches.length cL,Vo,Vb,Vc,Vj,Vf,Va,Vs,Vt] 29)).alloc (.cells (madeCells #[Value.bool false] C.latches.length) 4)) w.heap.size (w.heap.size + 1) #[.int .i64 C.max,Vi,.slice AL C.latches.length cL,Vo,Vb,Vc,Vj,Vf,Va,Vs,Vt] (List.replicate C.latches.length false)):=by
  refine zH ⟨((Below.refl w.heap.size w).alloc zN _).alloc (by simp) _,(Blk.new w _ _).alloc _,?_⟩
  unfold Tab
  rw [← made_bools]
  have:=Blk.new (w.alloc (.cells #[.int .i64 C.max,Vi,.slice AL C.latches.length cL,Vo,Vb,Vc,Vj,Vf,Va,Vs,Vt] 29)) 4 (madeCells #[Value.bool false] C.latches.length)
  simpa using this
 obtain ⟨n,hn⟩ : ∃ n,C.latches.length = n:=⟨_,rfl⟩
 obtain ⟨m,hmm⟩ : ∃ m,C.max = m:=⟨_,rfl⟩
 rw [hn] at HNX hnl HS0 hmk
 rw [hmm] at HL HIS HS0 hm0 hm1
 rw [hn,hmm]
 have HN:=zH hn
 have HMM:=zH hmm
 clear rL h hrt hc hv hT hn hmm
 generalize nextF C T = L at *
 go_enter Tryz.func69,Tryz.ntmps69
 go_wp2
 go_loopg [15] n (fun k j wx => ∃ q : Nat,q ≤ n ∧ k = n - q ∧ j = .int .i64 q ∧ NS w wx w.heap.size (w.heap.size + 1) #[.int .i64 m,Vi,.slice AL n cL,Vo,Vb,Vc,Vj,Vf,Va,Vs,Vt] (L.take q ++ List.replicate (n - q) false))
 case atStart => exact ⟨0,Nat.zero_le _,rfl,rfl,HS0.out⟩
 case round =>
  obtain ⟨q,hq,hgk,rfl,hst⟩:=hrel
  subst hgk
  have HST:=zH hst
  clear hst
  by_cases hlt : q < n
  · obtain ⟨z,hz⟩ : ∃ z,C.latches[q]? = some z:=⟨_,List.getElem?_eq_getElem (by rw [HN.out]; exact hlt)⟩
    obtain ⟨b,off,e,hb,hcell⟩:=HRL.out q z hz
    subst e
    have HZ:=zH (HL.out z (List.mem_of_getElem? hz))
    have HX:=zH (HNA.out q z hz)
    obtain ⟨z0,z1,z2⟩:=z
    have h0:=(HST.out.below.cell (p:=⟨b,off + (q * 3 + 0),none⟩) hb).trans (hcell 0 _ rfl)
    have h1:=(HST.out.below.cell (p:=⟨b,off + (q * 3 + 1),none⟩) hb).trans (hcell 1 _ rfl)
    have h2:=(HST.out.below.cell (p:=⟨b,off + (q * 3 + 2),none⟩) hb).trans (hcell 2 _ rfl)
    simp only [Nat.add_zero,← Nat.add_assoc] at h0 h1 h2
    have HSA:=zH (HST.out.alloc (.cells #[.int .i64 z0,.int .i64 z1,.int .i64 z2] 46))
    have htl : q < (L.take q ++ List.replicate (n - q) false).length:=by rw [fillT_len HNX.out hq]; exact hlt
    have hold:=HSA.out.tab.cell (getD_bool htl)
    have hfr:=Blk.frozen HSA.out.tab q
    have hgb:=Blk.lt HSA.out.tab
    clear hcell hz htl
    go_wp2_with (go_at_call 82; refine (HIS.out _ z1 HSA.out.below HZ.out.1 HZ.out.2).mono ?_; rintro e w5 ⟨rfl,rfl⟩)
    go_roundg (n - (q + 1))
    case measure => omega
    case rel =>
     refine ⟨q + 1,by omega,rfl,by go_num,?_⟩
     rw [← fillT_set HNX.out HX.out]
     exact HSA.out.set_ (by omega) (by omega) _ _
  · have hqe : n = q:=by omega
    subst hqe
    have hend:=HST.out
    rw [fillT_end HNX.out] at hend
    have HE:=zH hend
    clear hlt hq hend
    go_wp2
    go_ret
    exact ⟨w.heap.size + 1,rfl,by omega,HE.out.below,HE.out.tab⟩

set_option maxHeartbeats 4000000 in
set_option maxRecDepth 100000 in
theorem holdsBy_any (w : World) (V : CV) (C : Circ) (bq : Nat) (v : Value) (T : List Bool) (h : C.In w V) (hrt : Right C) (hc : w.cell? ⟨bq,0,none⟩ = some v) (hbq : bq < w.heap.size) (hv : RowE 1 encO w v T) (hT : T.length = C.max.toNat + 1) :
 Calls Tryz.prog 85 #[V.val C.max,isV bq] w fun e w' => e = .returned (.bool (holdsF C T)) ∧ Below w.heap.size w w':=by
 have hnl:=hrt.nc
 have hm0:=hrt.m0
 have hm1:=hrt.m1
 have HL : Hid (∀ z ∈ C.constraints,0 ≤ z ∧ z / 2 ≤ C.max):=zH (fun z hz => by have:=hrt.c z hz; unfold LitOk at this; exact this)
 have HIS : Hid (∀ (wx : World) (l : Int),Below w.heap.size w wx → 0 ≤ l → l / 2 ≤ C.max → Calls Tryz.prog 82 #[.int .i64 l,.pointer (some ⟨bq,0,none⟩)] wx fun e w' => e = .returned (.bool (litV T l)) ∧ w' = wx):=zH (fun wx l hx h0 h1 =>
  is_any wx bq v T l ((hx.cell (p:=⟨bq,0,none⟩) hbq).trans hc) (hv.below hx) h0 (by rw [hT]; omega) (by omega))
 obtain ⟨AC,cC,eC,_,_,rC⟩:=h.c
 obtain ⟨Vi,Vl,Vo,Vb,Vc,Vj,Vf,Va,Vs,Vt⟩:=V
 simp only at eC
 subst eC
 have HRC:=zH rC
 have HH : Hid (holdsF C T = C.constraints.all (litV T)):=zH rfl
 have HB:=zH ((Below.refl w.heap.size w).alloc zN (.cells #[.int .i64 C.max,Vi,Vl,Vo,Vb,.slice AC C.constraints.length cC,Vj,Vf,Va,Vs,Vt] 29))
 obtain ⟨n,hn⟩ : ∃ n,C.constraints.length = n:=⟨_,rfl⟩
 obtain ⟨m,hmm⟩ : ∃ m,C.max = m:=⟨_,rfl⟩
 rw [hn] at hnl HB
 rw [hmm] at HL HIS HB hm0 hm1
 rw [hn,hmm]
 have HN:=zH hn
 clear rC h hrt hc hv hT hn hmm
 generalize holdsF C T = r at *
 go_enter Tryz.func85,Tryz.ntmps85
 go_wp2
 go_loopg [10] n (fun k j wx => ∃ q : Nat,q ≤ n ∧ k = n - q ∧ j = .int .i64 q ∧ (C.constraints.take q).all (litV T) = true ∧ Below w.heap.size w wx)
 case atStart => exact ⟨0,Nat.zero_le _,rfl,rfl,rfl,HB.out⟩
 case round =>
  obtain ⟨q,hq,hgk,rfl,hal,hbw⟩:=hrel
  subst hgk
  have HAL:=zH hal
  have HBW:=zH hbw
  clear hal hbw
  by_cases hlt : q < n
  · obtain ⟨z,hz⟩ : ∃ z,C.constraints[q]? = some z:=⟨_,List.getElem?_eq_getElem (by rw [HN.out]; exact hlt)⟩
    obtain ⟨b,off,e,hb,hcell⟩:=HRC.out q z hz
    subst e
    have HZ:=zH (HL.out z (List.mem_of_getElem? hz))
    have h0:=(HBW.out.cell (p:=⟨b,off + (q * 1 + 0),none⟩) hb).trans (hcell 0 _ rfl)
    simp only [Nat.mul_one,Nat.add_zero] at h0
    have HP : Hid (C.constraints.take (q + 1) = C.constraints.take q ++ [z]):=zH (by rw [List.take_add_one,hz]; rfl)
    have HMEM:=zH (List.mem_of_getElem? hz)
    clear hcell hz
    have hcall:=HIS.out wr z HBW.out HZ.out.1 HZ.out.2
    cases hlv : litV T z
    · rw [hlv] at hcall
      have HC:=zH hcall
      have HR : Hid (r = false):=zH (by rw [HH.out,List.all_eq_false]; exact ⟨z,HMEM.out,by rw [hlv]; decide⟩)
      clear hcall hlv
      go_wp2_with (go_at_call 82; refine HC.out.mono ?_; rintro e w5 ⟨rfl,rfl⟩)
      go_ret
      exact ⟨ret_bool HR.out.symm,HBW.out⟩
    · rw [hlv] at hcall
      have HC:=zH hcall
      have HR : Hid ((C.constraints.take (q + 1)).all (litV T) = true):=zH (by rw [HP.out,List.all_append,HAL.out]; simp [hlv])
      clear hcall hlv
      go_wp2_with (go_at_call 82; refine HC.out.mono ?_; rintro e w5 ⟨rfl,rfl⟩)
      go_roundg (n - (q + 1))
      case measure => omega
      case rel => exact ⟨q + 1,by omega,rfl,by go_num,HR.out,HBW.out⟩
  · have hqe : n = q:=by omega
    subst hqe
    have HR : Hid (r = true):=zH (by
     have:=HAL.out
     rw [List.take_of_length_le (by rw [HN.out]; exact Nat.le_refl _)] at this
     rw [HH.out]; exact this)
    clear hlt hq
    go_wp2
    go_ret
    exact ⟨ret_bool HR.out.symm,HBW.out⟩
open Go.RowKit

def fitE (C : Circ) (st row : List Bool) : Int := if (checkR C).2 = 0 then (if st.length = C.latches.length ∧ row.length = C.inputs.length then 0 else 4) else (checkR C).2
theorem slO_form {w : World} {v : Value} {t : List Bool} (h : RowE 1 encO w v t) : ∃ A n c,v = .slice A n c := by
 obtain ⟨A,c,e,_⟩:=h
 exact ⟨A,_,c,e⟩
theorem fitE_ok {C : Circ} {st row : List Bool} (h : fitE C st row = 0) : (checkR C).2 = 0 ∧ st.length = C.latches.length ∧ row.length = C.inputs.length := by
 unfold fitE at h
 by_cases h0 : (checkR C).2 = 0
 · rw [if_pos h0] at h
   by_cases h1 : st.length = C.latches.length ∧ row.length = C.inputs.length
   · exact ⟨h0,h1⟩
   · rw [if_neg h1] at h; cases h
 · rw [if_neg h0] at h; exact absurd h h0
theorem fitE_not {C : Circ} {st row : List Bool} (h : (checkR C).2 = 0) (h1 : ¬ (st.length = C.latches.length ∧ row.length = C.inputs.length)) : fitE C st row = 4 := by unfold fitE; rw [if_pos h,if_neg h1]
theorem fitE_bad {C : Circ} {st row : List Bool} (h : (checkR C).2 ≠ 0) : fitE C st row = (checkR C).2 := by unfold fitE; rw [if_neg h]
theorem fitE_yes {C : Circ} {st row : List Bool} (h : (checkR C).2 = 0) (h1 : st.length = C.latches.length) (h2 : row.length = C.inputs.length) : fitE C st row = 0 := by unfold fitE; rw [if_pos h,if_pos ⟨h1,h2⟩]

set_option maxHeartbeats 4000000 in
set_option maxRecDepth 100000 in
theorem Values_any (w : World) (V : CV) (C : Circ) (sv rv : Value) (st row : List Bool) (O : List Int) (h : C.In w V) (ok : C.Ok) (hs : RowE 1 encO w sv st) (hr : RowE 1 encO w rv row) (hO : (checkR C).2 = 0 → IsOrd C O) :
 Calls Tryz.prog 88 #[V.val C.max,sv,rv] w fun e w' => Below w.heap.size w w' ∧ ∃ v,e = .returned (.tuple #[v,.int .i64 (fitE C st row)]) ∧ (fitE C st row ≠ 0 → v = .slice none 0 0) ∧
  (fitE C st row = 0 → ∃ g,v = .slice (some ⟨g,0,none⟩) (C.max.toNat + 1) (C.max.toNat + 1) ∧ w.heap.size ≤ g ∧ Tab w' g (valF C O st row)):=by
 have hord:=Order_any (w.alloc (.cells (V.cells C.max) 29)) V C (h.below ((Below.refl w.heap.size w).alloc zN _)) ok
 have HSF:=zH (fun (wx : World) (hx : C.In wx V) (hy : RowE 1 encO wx sv st) => stateFits_any wx V C sv st hx hy)
 have HRF:=zH (fun (wx : World) (hx : C.In wx V) (hy : RowE 1 encO wx rv row) => rowFits_any wx V C rv row hx hy)
 have HVO:=zH (fun (wx : World) (gv : Value) (hx : C.In wx V) (hg : RowE 1 encI wx gv O) (hy : RowE 1 encO wx sv st) (hz : RowE 1 encO wx rv row) (h0 : fitE C st row = 0) =>
  valuesOf_any wx V C gv sv rv O st row hx hg hy hz (right_of (fitE_ok h0).1) (fitE_ok h0).2.1 (fitE_ok h0).2.2 (hO (fitE_ok h0).1).inR (by rw [(hO (fitE_ok h0).1).l]; exact (right_of (fitE_ok h0).1).na))
 have hall : ∀ wz,Below (w.alloc (.cells (V.cells C.max) 29)).heap.size (w.alloc (.cells (V.cells C.max) 29)) wz → Blk wz w.heap.size 29 (V.cells C.max) ∧ C.In wz V ∧ RowE 1 encO wz sv st ∧ RowE 1 encO wz rv row ∧ Below w.heap.size w wz:=fun wz hb => by
  have h1 : Below w.heap.size w wz:=((Below.refl w.heap.size w).alloc zN _).trans (hb.mono (by simp))
  exact ⟨(Blk.new w _ _).below hb (by simp),h.below h1,hs.below h1,hr.below h1,h1⟩
 have HX : Hid (Below (w.alloc (.cells (V.cells C.max) 29)).heap.size (w.alloc (.cells (V.cells C.max) 29)) (w.alloc (.cells (V.cells C.max) 29))):=zH (Below.refl _ _)
 obtain ⟨Vi,Vl,Vo,Vb,Vc,Vj,Vf,Va,Vs,Vt⟩:=V
 obtain ⟨m,hmm⟩ : ∃ m,C.max = m:=⟨_,rfl⟩
 obtain ⟨r,hrr⟩ : ∃ r,(checkR C).2 = r:=⟨_,rfl⟩
 rw [hmm] at hall HX HSF HRF HVO hord
 rw [hrr] at hord
 rw [hmm]
 obtain ⟨sA,sn,sc,esv⟩:=slO_form hs
 obtain ⟨rA,rn,rc,erv⟩:=slO_form hr
 subst esv erv
 have HALL:=zH hall
 have HORD:=zH hord
 have HO:=zH hO
 have HRR:=zH hrr
 clear hall hord hO hmm h ok hs hr
 obtain ⟨c0,c1,c2,c3,c4,c5,c6,c7,c8,c9,c10⟩:=rbox_of (HALL.out _ HX.out).1
 by_cases h0 : r = 0
 · subst h0
   have HRT:=zH (right_of HRR.out)
   by_cases h1 : st.length = C.latches.length
   · by_cases h2 : row.length = C.inputs.length
     · have HF:=zH (fitE_yes HRR.out h1 h2)
       rw [decide_eq_true h1] at HSF
       rw [decide_eq_true h2] at HRF
       clear h1 h2 hrr
       rw [HF.out]
       go_enter Tryz.func88,Tryz.ntmps88
       go_wp2_with (first
        | (go_at_call 63; refine HORD.out.mono ?_; rintro e w1 ⟨hb,v1,out1,rfl,_,hyes⟩; obtain ⟨ho1,hg1,hl1⟩:=hyes rfl; obtain rfl:=(HO.out HRR.out).same hg1 hl1; have HO1:=zH (own_rowe lenI (by rw [flat_ints]; exact ho1)); have HXA:=zH (Below.refl w1.heap.size w1); clear hyes ho1 hg1 hl1; have HXN:=zH (bt HX.out zN hb); clear HX hb c0 c1 c2 c3 c4 c5 c6 c7 c8 c9 c10; have HX:=HXN; clear HXN; obtain ⟨c0,c1,c2,c3,c4,c5,c6,c7,c8,c9,c10⟩:=rbox_of (HALL.out _ HX.out).1)
        | (go_at_call 80; refine (HSF.out _ (HALL.out _ HX.out).2.1 (HALL.out _ HX.out).2.2.1).mono ?_; rintro e w2 ⟨rfl,hb⟩; have HO2:=zH (HO1.out.below hb); have HXN:=zH (bt HX.out zN hb); clear HX hb c0 c1 c2 c3 c4 c5 c6 c7 c8 c9 c10; have HX:=HXN; clear HXN; obtain ⟨c0,c1,c2,c3,c4,c5,c6,c7,c8,c9,c10⟩:=rbox_of (HALL.out _ HX.out).1)
        | (go_at_call 81; refine (HRF.out _ (HALL.out _ HX.out).2.1 (HALL.out _ HX.out).2.2.2.1).mono ?_; rintro e w3 ⟨rfl,hb⟩; have HO3:=zH (HO2.out.below hb); have HXN:=zH (bt HX.out zN hb); clear HX hb c0 c1 c2 c3 c4 c5 c6 c7 c8 c9 c10; have HX:=HXN; clear HXN; obtain ⟨c0,c1,c2,c3,c4,c5,c6,c7,c8,c9,c10⟩:=rbox_of (HALL.out _ HX.out).1)
        | (go_at_call 67; refine (HVO.out _ _ (HALL.out _ HX.out).2.1 HO3.out (HALL.out _ HX.out).2.2.1 (HALL.out _ HX.out).2.2.2.1 HF.out).mono ?_; rintro e w4 ⟨g,rfl,hg4,hb,ht4⟩; have HG4:=zH (And.intro (Nat.le_trans (HALL.out _ HX.out).2.2.2.2.size hg4) ht4); clear hg4 ht4; have HXN:=zH (bt HX.out zN hb); clear HX hb c0 c1 c2 c3 c4 c5 c6 c7 c8 c9 c10; have HX:=HXN; clear HXN; obtain ⟨c0,c1,c2,c3,c4,c5,c6,c7,c8,c9,c10⟩:=rbox_of (HALL.out _ HX.out).1))
       go_ret2
       exact ⟨(HALL.out _ HX.out).2.2.2.2,_,rfl,fun h => absurd rfl h,fun _ => ⟨g,rfl,HG4.out.1,HG4.out.2⟩⟩
     · have HF:=zH (fitE_not (C:=C) (st:=st) (row:=row) HRR.out (fun h => h2 h.2))
       rw [decide_eq_true h1] at HSF
       rw [decide_eq_false h2] at HRF
       clear h1 h2 hrr HVO
       rw [HF.out]
       go_enter Tryz.func88,Tryz.ntmps88
       go_wp2_with (first
        | (go_at_call 63; refine HORD.out.mono ?_; rintro e w1 ⟨hb,v1,out1,rfl,_,_⟩; have HXN:=zH (bt HX.out zN hb); clear HX hb c0 c1 c2 c3 c4 c5 c6 c7 c8 c9 c10; have HX:=HXN; clear HXN; obtain ⟨c0,c1,c2,c3,c4,c5,c6,c7,c8,c9,c10⟩:=rbox_of (HALL.out _ HX.out).1)
        | (go_at_call 80; refine (HSF.out _ (HALL.out _ HX.out).2.1 (HALL.out _ HX.out).2.2.1).mono ?_; rintro e w2 ⟨rfl,hb⟩; have HXN:=zH (bt HX.out zN hb); clear HX hb c0 c1 c2 c3 c4 c5 c6 c7 c8 c9 c10; have HX:=HXN; clear HXN; obtain ⟨c0,c1,c2,c3,c4,c5,c6,c7,c8,c9,c10⟩:=rbox_of (HALL.out _ HX.out).1)
        | (go_at_call 81; refine (HRF.out _ (HALL.out _ HX.out).2.1 (HALL.out _ HX.out).2.2.2.1).mono ?_; rintro e w3 ⟨rfl,hb⟩; have HXN:=zH (bt HX.out zN hb); clear HX hb c0 c1 c2 c3 c4 c5 c6 c7 c8 c9 c10; have HX:=HXN; clear HXN; obtain ⟨c0,c1,c2,c3,c4,c5,c6,c7,c8,c9,c10⟩:=rbox_of (HALL.out _ HX.out).1))
       go_ret2
       exact ⟨(HALL.out _ HX.out).2.2.2.2,_,rfl,fun _ => rfl,fun h => absurd h (by decide)⟩
   · have HF:=zH (fitE_not (C:=C) (st:=st) (row:=row) HRR.out (fun h => h1 h.1))
     rw [decide_eq_false h1] at HSF
     clear h1 hrr HVO
     rw [HF.out]
     go_enter Tryz.func88,Tryz.ntmps88
     go_wp2_with (first
      | (go_at_call 63; refine HORD.out.mono ?_; rintro e w1 ⟨hb,v1,out1,rfl,_,_⟩; have HXN:=zH (bt HX.out zN hb); clear HX hb c0 c1 c2 c3 c4 c5 c6 c7 c8 c9 c10; have HX:=HXN; clear HXN; obtain ⟨c0,c1,c2,c3,c4,c5,c6,c7,c8,c9,c10⟩:=rbox_of (HALL.out _ HX.out).1)
      | (go_at_call 80; refine (HSF.out _ (HALL.out _ HX.out).2.1 (HALL.out _ HX.out).2.2.1).mono ?_; rintro e w2 ⟨rfl,hb⟩; have HXN:=zH (bt HX.out zN hb); clear HX hb c0 c1 c2 c3 c4 c5 c6 c7 c8 c9 c10; have HX:=HXN; clear HXN; obtain ⟨c0,c1,c2,c3,c4,c5,c6,c7,c8,c9,c10⟩:=rbox_of (HALL.out _ HX.out).1))
     go_ret2
     exact ⟨(HALL.out _ HX.out).2.2.2.2,_,rfl,fun _ => rfl,fun h => absurd h (by decide)⟩
 · have hq : (r != 0) = true:=by simpa using h0
   have HF : Hid (fitE C st row = r):=zH (by rw [fitE_bad (by rw [HRR.out]; exact h0),HRR.out])
   have H0:=zH h0
   clear h0 hrr HVO
   rw [HF.out]
   go_enter Tryz.func88,Tryz.ntmps88
   go_wp2_with (go_at_call 63; refine HORD.out.mono ?_; rintro e w1 ⟨hb,v1,out1,rfl,_,_⟩; have HXN:=zH (bt HX.out zN hb); clear HX hb c0 c1 c2 c3 c4 c5 c6 c7 c8 c9 c10; have HX:=HXN; clear HXN; obtain ⟨c0,c1,c2,c3,c4,c5,c6,c7,c8,c9,c10⟩:=rbox_of (HALL.out _ HX.out).1)
   go_ret2
   exact ⟨(HALL.out _ HX.out).2.2.2.2,_,rfl,fun _ => rfl,fun h => absurd h H0.out⟩

set_option maxHeartbeats 4000000 in
set_option maxRecDepth 100000 in
theorem Next_any (w : World) (V : CV) (C : Circ) (sv rv : Value) (st row : List Bool) (O : List Int) (h : C.In w V) (ok : C.Ok) (hs : RowE 1 encO w sv st) (hr : RowE 1 encO w rv row) (hO : (checkR C).2 = 0 → IsOrd C O) :
 Calls Tryz.prog 76 #[V.val C.max,sv,rv] w fun e w' => Below w.heap.size w w' ∧ ∃ v,e = .returned (.tuple #[v,.int .i64 (fitE C st row)]) ∧ (fitE C st row ≠ 0 → v = .slice none 0 0) ∧
  (fitE C st row = 0 → ∃ g,v = .slice (some ⟨g,0,none⟩) C.latches.length C.latches.length ∧ w.heap.size ≤ g ∧ Tab w' g (nextF C (valF C O st row))):=by
 have HVAL:=zH (fun (wx : World) (hx : C.In wx V) (hy : RowE 1 encO wx sv st) (hz : RowE 1 encO wx rv row) => Values_any wx V C sv rv st row O hx ok hy hz hO)
 have HNX:=zH (fun (wx : World) (bq g : Nat) (hx : C.In wx V) (hc : wx.cell? ⟨bq,0,none⟩ = some (.slice (some ⟨g,0,none⟩) (C.max.toNat + 1) (C.max.toNat + 1))) (hq : bq < wx.heap.size) (ht : Tab wx g (valF C O st row)) (h0 : fitE C st row = 0) =>
  nextOf_any wx V C bq _ (valF C O st row) hx (right_of (fitE_ok h0).1) hc hq (by have h1:=tabT_row ht (by rw [valF_len]; have:=(right_of (fitE_ok h0).1).m1; unfold maxLen; omega); rw [valF_len] at h1; exact h1) (valF_len C O st row))
 have hall : ∀ wz,Below (w.alloc (.cells (V.cells C.max) 29)).heap.size (w.alloc (.cells (V.cells C.max) 29)) wz → Blk wz w.heap.size 29 (V.cells C.max) ∧ C.In wz V ∧ RowE 1 encO wz sv st ∧ RowE 1 encO wz rv row ∧ Below w.heap.size w wz:=fun wz hb => by
  have h1 : Below w.heap.size w wz:=((Below.refl w.heap.size w).alloc zN _).trans (hb.mono (by simp))
  exact ⟨(Blk.new w _ _).below hb (by simp),h.below h1,hs.below h1,hr.below h1,h1⟩
 have HX : Hid (Below (w.alloc (.cells (V.cells C.max) 29)).heap.size (w.alloc (.cells (V.cells C.max) 29)) (w.alloc (.cells (V.cells C.max) 29))):=zH (Below.refl _ _)
 obtain ⟨Vi,Vl,Vo,Vb,Vc,Vj,Vf,Va,Vs,Vt⟩:=V
 obtain ⟨m,hmm⟩ : ∃ m,C.max = m:=⟨_,rfl⟩
 rw [hmm] at hall HX HVAL HNX
 rw [hmm]
 obtain ⟨sA,sn,sc,esv⟩:=slO_form hs
 obtain ⟨rA,rn,rc,erv⟩:=slO_form hr
 subst esv erv
 have HALL:=zH hall
 clear hall hmm h ok hs hr
 obtain ⟨c0,c1,c2,c3,c4,c5,c6,c7,c8,c9,c10⟩:=rbox_of (HALL.out _ HX.out).1
 by_cases h0 : fitE C st row = 0
 · have HF:=zH h0
   rw [h0] at HVAL
   rw [h0]
   clear h0
   go_enter Tryz.func76,Tryz.ntmps76
   go_upto_region 4 with (go_at_call 88; refine (HVAL.out _ (HALL.out _ HX.out).2.1 (HALL.out _ HX.out).2.2.1 (HALL.out _ HX.out).2.2.2.1).mono ?_; rintro e w1 ⟨hb,v1,rfl,_,hyes⟩; obtain ⟨g,rfl,hg1,ht1⟩:=hyes rfl; have HG1:=zH hg1; have HT1:=zH ht1; clear hyes hg1 ht1; have HXN:=zH (bt HX.out zN hb); clear HX hb c0 c1 c2 c3 c4 c5 c6 c7 c8 c9 c10; have HX:=HXN; clear HXN; obtain ⟨c0,c1,c2,c3,c4,c5,c6,c7,c8,c9,c10⟩:=rbox_of (HALL.out _ HX.out).1)
   have HXA : Hid (Below (w.alloc (.cells #[.int .i64 m,Vi,Vl,Vo,Vb,Vc,Vj,Vf,Va,Vs,Vt] 29)).heap.size (w.alloc (.cells #[.int .i64 m,Vi,Vl,Vo,Vb,Vc,Vj,Vf,Va,Vs,Vt] 29)) (w1.drew.alloc (.cells #[.slice (some ⟨g,0,none⟩) (m.toNat + 1) (m.toNat + 1)] 30))):=zH (HX.out.drew.alloc HX.out.drew.size _)
   have HTA : Hid (Tab (w1.drew.alloc (.cells #[.slice (some ⟨g,0,none⟩) (m.toNat + 1) (m.toNat + 1)] 30)) g (valF C O st row)):=zH (Blk.alloc (Blk.drew HT1.out) _)
   have HCA : Hid ((w1.drew.alloc (.cells #[.slice (some ⟨g,0,none⟩) (m.toNat + 1) (m.toNat + 1)] 30)).cell? ⟨w1.drew.heap.size,0,none⟩ = some (.slice (some ⟨g,0,none⟩) (m.toNat + 1) (m.toNat + 1))):=zH ((Blk.new w1.drew _ _).cell 0)
   have HQA : Hid (w1.drew.heap.size < (w1.drew.alloc (.cells #[.slice (some ⟨g,0,none⟩) (m.toNat + 1) (m.toNat + 1)] 30)).heap.size):=zH (by simp)
   go_region_held3 (fun w' => w'.cell? ⟨w.heap.size,0,none⟩ = some (.int .i64 m) ∧ w'.cell? ⟨w.heap.size,1,none⟩ = some Vi ∧ w'.cell? ⟨w.heap.size,2,none⟩ = some Vl ∧ w'.cell? ⟨w.heap.size,3,none⟩ = some Vo ∧ w'.cell? ⟨w.heap.size,4,none⟩ = some Vb ∧ w'.cell? ⟨w.heap.size,5,none⟩ = some Vc ∧ w'.cell? ⟨w.heap.size,6,none⟩ = some Vj ∧ w'.cell? ⟨w.heap.size,7,none⟩ = some Vf ∧ w'.cell? ⟨w.heap.size,8,none⟩ = some Va ∧ w'.cell? ⟨w.heap.size,9,none⟩ = some Vs ∧ w'.cell? ⟨w.heap.size,10,none⟩ = some Vt)
    (first | exact rbox_of (HALL.out _ HX.out.drew).1 | exact rbox_of (HALL.out _ HXA.out).1 | exact rbox_of (HALL.out _ HXB.out).1 | go_keep)
    (first
      | (go_at_call 66; refine (asker_any _ _ _ _).mono ?_; rintro e w5 ⟨rfl,rfl⟩)
      | (go_at_call 69; refine (HNX.out _ _ _ (HALL.out _ HXA.out).2.1 HCA.out HQA.out HTA.out HF.out).mono ?_; rintro e w6 ⟨g6,rfl,hg6,hb,ht6⟩; have HXB:=zH (bt HXA.out zN hb); have HG6:=zH (And.intro (Nat.le_trans (HALL.out _ HXA.out).2.2.2.2.size hg6) ht6); clear hg6 hb ht6))
   go_wp2
   go_ret2
   exact ⟨(HALL.out _ HXB.out).2.2.2.2,_,rfl,fun h => absurd rfl h,fun _ => ⟨g6,rfl,HG6.out.1,HG6.out.2⟩⟩
 · obtain ⟨r,hr⟩ : ∃ r,fitE C st row = r:=⟨_,rfl⟩
   rw [hr] at HVAL h0
   rw [hr]
   have hq : (r != 0) = true:=by simpa using h0
   have H0:=zH h0
   clear h0 hr HNX
   go_enter Tryz.func76,Tryz.ntmps76
   go_wp2_with (go_at_call 88; refine (HVAL.out _ (HALL.out _ HX.out).2.1 (HALL.out _ HX.out).2.2.1 (HALL.out _ HX.out).2.2.2.1).mono ?_; rintro e w1 ⟨hb,v1,rfl,hno,_⟩; obtain rfl:=hno H0.out; clear hno; have HXN:=zH (bt HX.out zN hb); clear HX hb c0 c1 c2 c3 c4 c5 c6 c7 c8 c9 c10; have HX:=HXN; clear HXN; obtain ⟨c0,c1,c2,c3,c4,c5,c6,c7,c8,c9,c10⟩:=rbox_of (HALL.out _ HX.out).1)
   go_ret2
   exact ⟨(HALL.out _ HX.out).2.2.2.2,_,rfl,fun _ => rfl,fun h => absurd h H0.out⟩

end Go.Proofs.YtjbglgmbnjdhcaaGreat

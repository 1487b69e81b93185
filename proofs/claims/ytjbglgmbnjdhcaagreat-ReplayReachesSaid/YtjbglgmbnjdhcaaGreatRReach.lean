import Derived.Test.YtjbglgmbnjdhcaaGreatRplW
import Derived.Test.YtjbglgmbnjdhcaaGreatRRefB
import Derived.Test.YtjbglgmbnjdhcaaGreatSRuns
namespace Go.Proofs.YtjbglgmbnjdhcaaGreat
open Go.RowKit

set_option maxHeartbeats 20000000 in
set_option maxRecDepth 100000 in
theorem replayReaches_walk (w : World) (V : CV) (C : Circ) (U : TV) (t : Tr) (h : C.In w V) (ok : C.Ok) (rm : C.Room ∧ C.Reach) (ht : t.In w U) (hr : t.Reach) :
 Calls Tryz.prog 3 #[V.val C.max,U.val t.loop] w fun e w' => e = .returned (.bool true) ∧ Below w.heap.size w w':=by
 obtain ⟨O,hO⟩:=ord_ex h ok
 obtain ⟨rm,re⟩:=rm
 have HIN:=zH (And.intro h ht)
 have HRMC:=zH (And.intro rm re)
 have HRTC:=zH hr
 have HRUN:=zH (fun (wx : World) (V2 : CV) (U2 : TV) (hx : C.In wx V2) (hy : t.In wx U2) => Reached_any wx V2 C U2 t O hx ok hy hO)
 have HRR:=zH (fun (wx : World) (V2 : CV) (U2 : TV) (hx : C.In wx V2) (hy : t.In wx U2) => rReached_any wx V2 C U2 t O hx ok rm re.t hy hO)
 have HKEPT:=zH (fun (wx : World) (B : Nat) (V2 V3 : CV) (us : List Value) (hl : LentC wx B C us V2) (hx : C.In wx V3) => KeptCircuit_any wx B V2 V3 C us hl hx)
 have HSAME:=zH (fun (wx : World) (U2 U3 : TV) (hx : t.In wx U2) (hy : t.In wx U3) => SameTrace_any wx U2 U3 t hx hy)
 obtain ⟨AI,ni,cI,eI⟩:=slO_form ht.i
 obtain ⟨AR,cR,eR,_,_⟩:=ht.r.at_
 obtain ⟨Vi,Vl,Vo,Vb,Vc,Vj,Vf,Va,Vs,Vt⟩:=V
 obtain ⟨Ui,Ur⟩:=U
 simp only at eI eR
 subst eI eR
 obtain ⟨m,hmm⟩ : ∃ m,C.max = m:=⟨_,rfl⟩
 obtain ⟨lp,hlp⟩ : ∃ lp,t.loop = lp:=⟨_,rfl⟩
 obtain ⟨nr,hnr⟩ : ∃ n,t.rows.length = n:=⟨_,rfl⟩
 have HMM:=zH (And.intro hmm (And.intro hlp hnr))
 rw [hmm,hlp] at HRUN HRR
 rw [hmm] at HKEPT
 rw [hlp] at HSAME
 rw [hmm,hlp]
 rw [hnr] at HIN ⊢
 clear h ok rm re ht hr hO hmm hlp hnr
 go_enter Tryz.func3,Tryz.ntmps3
 go_upto_region 1 with (fail)
 go_cut [5,6] (fun p q wx => ∃ (gi gt : Nat) (U2 : CV) (us : List Value) (R : TV),p = .pointer (some ⟨gi,0,none⟩) ∧ q = .pointer (some ⟨gt,0,none⟩) ∧ SR w wx gi gt ⟨Vi,Vl,Vo,Vb,Vc,Vj,Vf,Va,Vs,Vt⟩ U2 us ⟨.slice AI ni cI,.slice AR nr cR⟩ R C t)
 case first =>
  have HLE:=zH (fun (wx : World) (hx : C.In wx ⟨Vi,Vl,Vo,Vb,Vc,Vj,Vf,Va,Vs,Vt⟩) => LendCircuit_any wx ⟨Vi,Vl,Vo,Vb,Vc,Vj,Vf,Va,Vs,Vt⟩ C hx HRMC.out.1 ⟨HRMC.out.2.i,HRMC.out.2.o,HRMC.out.2.b,HRMC.out.2.c,HRMC.out.2.f,HRMC.out.2.l,HRMC.out.2.a⟩)
  have HCT:=zH (fun (wx : World) (hx : t.In wx ⟨.slice AI ni cI,.slice AR nr cR⟩) => CopyTrace_any wx ⟨.slice AI ni cI,.slice AR nr cR⟩ t hx HRTC.out)
  rw [HMM.out.1] at HLE
  rw [HMM.out.2.1] at HCT
  obtain ⟨X,hX⟩ : ∃ X,X = ((w.alloc (.cells #[.int .i64 m,Vi,Vl,Vo,Vb,Vc,Vj,Vf,Va,Vs,Vt] 29)).alloc (.cells #[.slice AI ni cI,.slice AR nr cR,.int .i64 lp] 33)):=⟨_,rfl⟩
  have hXB : Below w.heap.size w X:=by rw [hX]; exact ((Below.refl w.heap.size w).alloc zN _).alloc (by simp) _
  have hX0 : Blk X w.heap.size 29 #[.int .i64 m,Vi,Vl,Vo,Vb,Vc,Vj,Vf,Va,Vs,Vt]:=by rw [hX]; exact (Blk.new w _ _).alloc _
  have hX1 : Blk X (w.heap.size + 1) 33 #[.slice AI ni cI,.slice AR nr cR,.int .i64 lp]:=by
   rw [hX]
   have h9:=Blk.new (w.alloc (.cells #[.int .i64 m,Vi,Vl,Vo,Vb,Vc,Vj,Vf,Va,Vs,Vt] 29)) 33 #[.slice AI ni cI,.slice AR nr cR,.int .i64 lp]
   rwa [show (w.alloc (.cells #[.int .i64 m,Vi,Vl,Vo,Vb,Vc,Vj,Vf,Va,Vs,Vt] 29)).heap.size = w.heap.size + 1 by simp] at h9
  rw [← hX]
  have HOLD : ∀ wz,Below X.heap.size X wz → C.In wz ⟨Vi,Vl,Vo,Vb,Vc,Vj,Vf,Va,Vs,Vt⟩ ∧ t.In wz ⟨.slice AI ni cI,.slice AR nr cR⟩ ∧ Blk wz w.heap.size 29 #[.int .i64 m,Vi,Vl,Vo,Vb,Vc,Vj,Vf,Va,Vs,Vt] ∧ Blk wz (w.heap.size + 1) 33 #[.slice AI ni cI,.slice AR nr cR,.int .i64 lp]:=fun wz hb => by
   have h9:=bt hXB zN hb
   exact ⟨HIN.out.1.below h9,HIN.out.2.below h9,hX0.below hb hX0.lt,hX1.below hb hX1.lt⟩
  refine region_lit ?_
  intro ops hops
  have HBA : (webB ops && acyB ops && (ops.size == 6 + 2) && Region.sinkB .any ops 6 && Region.waitsFor .any ops (6 + 1) 6) = true:=by rw [hops]; kernel_rfl
  have HB : webB ops = true:=by rw [hops]; kernel_rfl
  have HND2 : ∀ j,j < ops.size → dstOf ops j ≠ some 2:=noDst_spec (by rw [hops]; kernel_rfl)
  have HND3 : ∀ j,j < ops.size → dstOf ops j ≠ some 3:=noDst_spec (by rw [hops]; kernel_rfl)
  obtain ⟨w0,hw0⟩ : ∃ w0 : World,w0 = { X with drawn:=X.drawn + 1 }:=⟨_,rfl⟩
  have hb0 : Below X.heap.size X w0:=by rw [hw0]; exact (Below.refl _ _).drew
  refine wp_region_wes (by kernel_rfl) 6 HBA (fun w1 w2 => Below w1.heap.size w1 w2) (valL (srVals X.heap.size C t m lp (.agg #[.int .i64 m,Vi,Vl,Vo,Vb,Vc,Vj,Vf,Va,Vs,Vt]) (.agg #[.slice AI ni cI,.slice AR nr cR,.int .i64 lp]))) (fun _ _ _ _ => True) (fun _ _ _ _ _ => True) (fun _ _ _ _ _ _ _ _ _ _ _ => ⟨trivial,trivial⟩) (fun _ _ _ _ _ _ _ _ => trivial) (fun a => Below.refl _ _) (fun a b c h1 h2 => bt h1 zN h2) sr_keep ?_ ?_
  · intro i o hi ho
    rw [← hw0]
    rw [hops] at ho
    match i,hi,ho with
    | 0,_,ho =>
      simp only [zD,zE,Option.some.injEq] at ho; subst ho
      refine wesStep_of HB rfl (fun f aC wz hw hd ha hv hsp K hK => ?_)
      have hbx : Below X.heap.size X wz:=bt hb0 zN (hw.mono zN)
      have e1 : aC.eval (.tmp 2) = .pointer (some ⟨w.heap.size,0,none⟩):=(ha 2 HND2).trans rfl
      refine wp_load_row 29 (.tmp 2) rfl w.heap.size e1 29 _ (0,0) _ (HOLD wz hbx).2.2.1 Tryz.underlying29 rfl (by kernel_rfl) ?_
      exact hK _ _ (Below.refl _ _) rfl trivial
    | 1,_,ho =>
      simp only [zD,zE,zF,Option.some.injEq] at ho; subst ho
      refine wesStep_of HB rfl (fun f aC wz hw hd ha hv hsp K hK => ?_)
      have hbx : Below X.heap.size X wz:=bt hb0 zN (hw.mono zN)
      have e1 : aC.eval (.tmp 11) = .agg #[.int .i64 m,Vi,Vl,Vo,Vb,Vc,Vj,Vf,Va,Vs,Vt]:=(hd 0 11 (by rw [hops]; kernel_rfl) (by rw [hops]; kernel_rfl) (by simp)).trans (hv 0 (by rw [hops]; kernel_rfl))
      refine wp_enter (f:=4) (args:=#[.agg #[.int .i64 m,Vi,Vl,Vo,Vb,Vc,Vj,Vf,Va,Vs,Vt]]) ?_ ((HLE.out wz (HOLD wz hbx).1).mono ?_)
      · simp [execOp,resolve,e1]; rfl
      · rintro e w' ⟨V',us',rfl,hbel,hcop⟩
        exact ⟨_,rfl,hK _ w' hbel ⟨V',us',_,rfl,hcop⟩ trivial⟩
    | 2,_,ho =>
      simp only [zD,zE,zF,Option.some.injEq] at ho; subst ho
      refine wesStep_of HB rfl (fun f aC wz hw hd ha hv hsp K hK => ?_)
      have hbx : Below X.heap.size X wz:=bt hb0 zN (hw.mono zN)
      have e1 : aC.eval (.tmp 3) = .pointer (some ⟨w.heap.size + 1,0,none⟩):=(ha 3 HND3).trans rfl
      refine wp_load_row 33 (.tmp 3) rfl (w.heap.size + 1) e1 33 _ (0,0) _ (HOLD wz hbx).2.2.2 Tryz.underlying33 rfl (by kernel_rfl) ?_
      exact hK _ _ (Below.refl _ _) rfl trivial
    | 3,_,ho =>
      simp only [zD,zE,zF,Option.some.injEq] at ho; subst ho
      refine wesStep_of HB rfl (fun f aC wz hw hd ha hv hsp K hK => ?_)
      have hbx : Below X.heap.size X wz:=bt hb0 zN (hw.mono zN)
      have e1 : aC.eval (.tmp 13) = .agg #[.slice AI ni cI,.slice AR nr cR,.int .i64 lp]:=(hd 2 13 (by rw [hops]; kernel_rfl) (by rw [hops]; kernel_rfl) (by simp)).trans (hv 2 (by rw [hops]; kernel_rfl))
      refine wp_enter (f:=5) (args:=#[.agg #[.slice AI ni cI,.slice AR nr cR,.int .i64 lp]]) ?_ ((HCT.out wz (HOLD wz hbx).2.1).mono ?_)
      · simp [execOp,resolve,e1]; rfl
      · rintro e w' ⟨U',rfl,hbel,B',hcop⟩
        exact ⟨_,rfl,hK _ w' hbel ⟨U',B',rfl,hcop⟩ trivial⟩
    | 4,_,ho =>
      simp only [zD,zE,zF,Option.some.injEq] at ho; subst ho
      refine wesStep_of HB rfl (fun f aC wz hw hd ha hv hsp K hK => ?_)
      have hbx : Below X.heap.size X wz:=bt hb0 zN (hw.mono zN)
      refine wp_val (v:=.pointer (some ⟨wz.heap.size,0,none⟩)) (w':=wz.alloc (.cells zeroC 29)) ?_ (hK _ _ ((Below.refl _ _).alloc zN _) ⟨_,rfl,hbx.size,Blk.new _ _ _⟩ trivial)
      exact run_value (alloc_circ wz)
    | 5,_,ho =>
      simp only [zD,zE,zF,Option.some.injEq] at ho; subst ho
      refine wesStep_of HB rfl (fun f aC wz hw hd ha hv hsp K hK => ?_)
      have hbx : Below X.heap.size X wz:=bt hb0 zN (hw.mono zN)
      refine wp_val (v:=.pointer (some ⟨wz.heap.size,0,none⟩)) (w':=wz.alloc (.cells zeroT 33)) ?_ (hK _ _ ((Below.refl _ _).alloc zN _) ⟨_,rfl,hbx.size,Blk.new _ _ _⟩ trivial)
      exact run_value (alloc_trace wz)
    | n + 6,h,_ => exact absurd h (by omega)
  · intro f wz hw hv hsp
    rw [← hw0] at hw
    obtain ⟨V1,us,B1,e1,k1⟩ : srC C m (f 1) wz:=hv 1 (by decide)
    obtain ⟨U1,B2,e3,k3⟩ : srT t lp (f 3) wz:=hv 3 (by decide)
    obtain ⟨x5,e4,h4,k4⟩ : srB X.heap.size 29 zeroC (f 4) wz:=hv 4 (by decide)
    obtain ⟨x6,e5,h5,k5⟩ : srB X.heap.size 33 zeroT (f 5) wz:=hv 5 (by decide)
    have hne : x5 ≠ x6:=fun e => by
     subst e
     have h1 : wz.heap[x5]? = some (.cells zeroC 29 (0,0)):=k4
     have h2 : wz.heap[x5]? = some (.cells zeroT 33 (0,0)):=k5
     rw [h1] at h2
     injection h2 with h2
     injection h2 with _ h2 _
     exact absurd h2 (by decide)
    have e : putAll ops f (List.range 6) ({ tmps:=#[.agg #[.int .i64 m,Vi,Vl,Vo,Vb,Vc,Vj,Vf,Va,Vs,Vt],.agg #[.slice AI ni cI,.slice AR nr cR,.int .i64 lp],.pointer (some ⟨w.heap.size,0,none⟩),.pointer (some ⟨w.heap.size + 1,0,none⟩),.bool false,undef,undef,undef,undef,undef,undef,undef,undef,undef,undef,undef,undef,undef,undef,undef,undef,undef,undef,undef,undef,undef,undef,undef,undef,undef,undef,undef,undef,undef,undef,undef,undef,undef,undef,undef,undef,undef,undef,undef,undef,undef,undef,undef],defers:=[] } : Act) = ({ tmps:=#[.agg #[.int .i64 m,Vi,Vl,Vo,Vb,Vc,Vj,Vf,Va,Vs,Vt],.agg #[.slice AI ni cI,.slice AR nr cR,.int .i64 lp],.pointer (some ⟨w.heap.size,0,none⟩),.pointer (some ⟨w.heap.size + 1,0,none⟩),.bool false,f 4,f 5,undef,undef,undef,undef,f 0,f 1,f 2,f 3,undef,undef,undef,undef,undef,undef,undef,undef,undef,undef,undef,undef,undef,undef,undef,undef,undef,undef,undef,undef,undef,undef,undef,undef,undef,undef,undef,undef,undef,undef,undef,undef,undef],defers:=[] } : Act):=by rw [hops]; kernel_rfl
    refine wp_act_eqR e ?_
    clear e
    have ho6 : ∃ o,ops[6]? = some o ∧ o.guard = none ∧ o.op = .store 29 (.tmp 5) (.tmp 12) ∧ o.dst = none:=by rw [hops]; exact ⟨_,rfl,rfl,rfl,rfl⟩
    obtain ⟨o,ho1,ho2,ho3,ho4⟩:=ho6
    refine wpOp_of ho1 ho2 ?_
    refine wp_store_row 29 (.tmp 5) (.tmp 12) ho3 x5 (V1.cells m) (by exact e4) (by exact e1) 29 _ k4 (by kernel_rfl) rfl (one_lent k1) ?_
    rw [ho4]
    clear ho1 ho2 ho3 ho4 o
    obtain ⟨w3,hw3⟩ : ∃ w3,w3 = wz.setRow x5 (V1.cells m):=⟨_,rfl⟩
    rw [← hw3]
    have k5a : Blk w3 x5 29 (V1.cells m):=by rw [hw3]; exact setRow_heap wz x5 _ (V1.cells m) _ _ k4
    have ot3 : ∀ k,k ≠ x5 → w3.heap[k]? = wz.heap[k]?:=fun k hk => by
     rw [hw3]
     simp only [World.setRow,Array.getElem?_modify]
     rw [if_neg (fun e => hk e.symm)]
    have sz3 : w3.heap.size = wz.heap.size:=by rw [hw3]; simp
    have k6a : Blk w3 x6 33 zeroT:=(ot3 x6 (Ne.symm hne)).trans k5
    have hb3 : Below X.heap.size X w3:=by
     have h1:=bt hb0 zN (hw.mono zN)
     exact ⟨by rw [hw3]; exact h1.os,by rw [hw3]; exact h1.tape,by rw [hw3]; exact h1.output,by rw [sz3]; exact h1.size,fun k hk => (ot3 k (by omega)).trans (h1.block k hk)⟩
    have kc3:=k1.box k4 (.inl rfl) ot3
    have kt3:=k3.box k4 (.inl rfl) ot3
    clear hw3 ot3
    have ho7 : ∃ o,ops[7]? = some o ∧ o.guard = none ∧ o.op = .store 33 (.tmp 6) (.tmp 14) ∧ o.dst = none:=by rw [hops]; exact ⟨_,rfl,rfl,rfl,rfl⟩
    obtain ⟨o,ho1,ho2,ho3,ho4⟩:=ho7
    refine wpOp_of ho1 ho2 ?_
    refine wp_store_row 33 (.tmp 6) (.tmp 14) ho3 x6 (U1.cells lp) (by exact e5) (by exact e3) 33 _ k6a (by kernel_rfl) rfl (one_own kt3) ?_
    rw [ho4]
    clear ho1 ho2 ho3 ho4 o hops HBA HB HND2 HND3
    obtain ⟨w5,hw5⟩ : ∃ w5,w5 = w3.setRow x6 (U1.cells lp):=⟨_,rfl⟩
    rw [← hw5]
    have l6 : Blk w5 x6 33 (U1.cells lp):=by rw [hw5]; exact setRow_heap w3 x6 _ (U1.cells lp) _ _ k6a
    have ot5 : ∀ k,k ≠ x6 → w5.heap[k]? = w3.heap[k]?:=fun k hk => by
     rw [hw5]
     simp only [World.setRow,Array.getElem?_modify]
     rw [if_neg (fun e => hk e.symm)]
    have sz5 : w5.heap.size = w3.heap.size:=by rw [hw5]; simp
    have l5 : Blk w5 x5 29 (V1.cells m):=(ot5 x5 hne).trans k5a
    have hb5 : Below X.heap.size X w5:=⟨by rw [hw5]; exact hb3.os,by rw [hw5]; exact hb3.tape,by rw [hw5]; exact hb3.output,by rw [sz5]; exact hb3.size,fun k hk => (ot5 k (by omega)).trans (hb3.block k hk)⟩
    have kc5:=kc3.box k6a (.inr rfl) ot5
    have kt5:=kt3.box k6a (.inr rfl) ot5
    have hold:=HOLD w5 hb5
    have hSR : SR w w5 x5 x6 ⟨Vi,Vl,Vo,Vb,Vc,Vj,Vf,Va,Vs,Vt⟩ V1 us ⟨.slice AI ni cI,.slice AR nr cR⟩ U1 C t:=by
     refine ⟨?_,?_,?_,?_,⟨B1,kc5⟩,kt5.in_,bt hXB zN hb5⟩
     · rw [HMM.out.1]; exact hold.2.2.1
     · rw [HMM.out.2.1]; exact hold.2.2.2
     · rw [HMM.out.1]; exact l5
     · rw [HMM.out.2.1]; exact l6
    have HSR:=zH hSR
    rw [e1,e3,e4,e5,show f 0 = .agg #[.int .i64 m,Vi,Vl,Vo,Vb,Vc,Vj,Vf,Va,Vs,Vt] from hv 0 (by decide),show f 2 = .agg #[.slice AI ni cI,.slice AR nr cR,.int .i64 lp] from hv 2 (by decide)]
    clear hw5 ot5 hsp hv kc3 kt3 k4 k5 k5a k6a hb3 e1 e3 e4 e5 hw hb0 hw0 h4 h5 hold hSR kc5 kt5 l5 l6 hb5 sz3 sz5 hne k1 k3
    first
     | (go_meet; exact ⟨x5,x6,V1,us,U1,rfl,rfl,HSR.out⟩)
     | (go_wp2_with (fail); go_meet; exact ⟨x5,x6,V1,us,U1,rfl,rfl,HSR.out⟩)
     | (simp only []; go_meet; exact ⟨x5,x6,V1,us,U1,rfl,rfl,HSR.out⟩)
     | (trace_state; fail)
 case rest =>
  obtain ⟨gi,gt,U2,us,R,rfl,rfl,hsr⟩:=hcut
  obtain ⟨B,hl1⟩:=hsr.l
  obtain ⟨Ui2,Ul2,Uo2,Ub2,Uc2,Uj2,Uf2,Ua2,Us2,Ut2⟩:=U2
  obtain ⟨A0,n0,k0,hf0⟩:=sl_form hl1.in_.i
  obtain ⟨A1,n1,k1,hf1⟩:=sl_form hl1.in_.l
  obtain ⟨A2,n2,k2,hf2⟩:=sl_form hl1.in_.o
  obtain ⟨A3,n3,k3,hf3⟩:=sl_form hl1.in_.b
  obtain ⟨A4,n4,k4,hf4⟩:=sl_form hl1.in_.c
  obtain ⟨A5,n5,k5,hf5⟩:=sl_formL hl1.in_.j
  obtain ⟨A6,n6,k6,hf6⟩:=sl_form hl1.in_.f
  obtain ⟨A7,n7,k7,hf7⟩:=sl_form hl1.in_.a
  obtain ⟨A8,n8,k8,hf8⟩:=sl_form hl1.in_.s
  obtain ⟨A9,n9,k9,hf9⟩:=sl_form hl1.in_.t
  simp only at hf0 hf1 hf2 hf3 hf4 hf5 hf6 hf7 hf8 hf9
  subst hf0 hf1 hf2 hf3 hf4 hf5 hf6 hf7 hf8 hf9
  obtain ⟨BR,dR,fR,_,_⟩:=hsr.r.r.at_
  obtain ⟨BI,nj,dI,fI⟩:=slO_form hsr.r.i
  obtain ⟨Ri,Rr⟩:=R
  simp only at fR fI
  subst fR fI
  have hall : ∀ wz,Below wc.heap.size wc wz → Blk wz w.heap.size 29 #[.int .i64 m,Vi,Vl,Vo,Vb,Vc,Vj,Vf,Va,Vs,Vt] ∧ Blk wz (w.heap.size + 1) 33 #[.slice AI ni cI,.slice AR nr cR,.int .i64 lp] ∧ Blk wz gi 29 #[.int .i64 m,.slice A0 n0 k0,.slice A1 n1 k1,.slice A2 n2 k2,.slice A3 n3 k3,.slice A4 n4 k4,.slice A5 n5 k5,.slice A6 n6 k6,.slice A7 n7 k7,.slice A8 n8 k8,.slice A9 n9 k9] ∧ Blk wz gt 33 #[.slice BI nj dI,.slice BR nr dR,.int .i64 lp] ∧ (∃ B,LentC wz B C us (⟨.slice A0 n0 k0,.slice A1 n1 k1,.slice A2 n2 k2,.slice A3 n3 k3,.slice A4 n4 k4,.slice A5 n5 k5,.slice A6 n6 k6,.slice A7 n7 k7,.slice A8 n8 k8,.slice A9 n9 k9⟩ : CV)) ∧ t.In wz ⟨.slice BI nj dI,.slice BR nr dR⟩ ∧ Below w.heap.size w wz:=fun wz hb => by
   have h9:=hsr.below hb
   have h1:=h9.c
   have h2:=h9.tr
   have h3:=h9.ci
   have h4:=h9.ti
   have h5:=h9.r
   rw [HMM.out.1] at h1 h3
   rw [HMM.out.2.1] at h2 h4
   simp only [HMM.out.2.2] at h4 h5
   exact ⟨h1,h2,h3,h4,h9.l,h5,h9.b⟩
  have HALL:=zH hall
  have HX:=zH (Below.refl wc.heap.size wc)
  clear hl1 hsr hall
  obtain ⟨c0,c1,c2,c3,c4,c5,c6,c7,c8,c9,c10⟩:=rbox_of (HALL.out _ HX.out).1
  obtain ⟨x0,x1,x2⟩:=trio_of (HALL.out _ HX.out).2.1
  obtain ⟨e0,e1,e2,e3,e4,e5,e6,e7,e8,e9,e10⟩:=rbox_of (HALL.out _ HX.out).2.2.1
  obtain ⟨y0,y1,y2⟩:=trio_of (HALL.out _ HX.out).2.2.2.1
  obtain ⟨E,hE⟩ : ∃ E,reachE C O t = E:=⟨_,rfl⟩
  obtain ⟨L,hL⟩ : ∃ L,reachL C O t = L:=⟨_,rfl⟩
  rw [hE,hL] at HRUN HRR
  clear hE hL
  have hee : ((E : Int) == E) = true:=by simp
  have HSI:=zH (fun (wx : World) (v u : Value) (zs : List Int) (hx : RowE 1 encI wx v zs) (hy : RowE 1 encI wx u zs) => (show Calls Tryz.prog 8 #[v,u] wx fun e w' => e = .returned (.bool true) ∧ Below wx.heap.size wx w' from by have:=SameInts_any wx v u zs zs hx hy; rwa [decide_eq_true (rfl : zs = zs)] at this))
  go_upto_region 3 with (go_at_call 6; go_loud (obtain ⟨BL,hlx⟩:=(HALL.out _ HX.out).2.2.2.2.1; refine (HRUN.out _ (⟨.slice A0 n0 k0,.slice A1 n1 k1,.slice A2 n2 k2,.slice A3 n3 k3,.slice A4 n4 k4,.slice A5 n5 k5,.slice A6 n6 k6,.slice A7 n7 k7,.slice A8 n8 k8,.slice A9 n9 k9⟩ : CV) ⟨.slice BI nj dI,.slice BR nr dR⟩ hlx.in_ (HALL.out _ HX.out).2.2.2.2.2.1).mono ?_; rintro e w1 ⟨va,rfl,hra,hb⟩; have HRA:=zH (own_rowe (zs:=L) lenI (by rw [flat_ints]; exact hra)); clear hra hlx; have HXN:=zH (bt HX.out zN hb); clear HX hb c0 c1 c2 c3 c4 c5 c6 c7 c8 c9 c10 x0 x1 x2 e0 e1 e2 e3 e4 e5 e6 e7 e8 e9 e10 y0 y1 y2; have HX:=HXN; clear HXN; obtain ⟨c0,c1,c2,c3,c4,c5,c6,c7,c8,c9,c10⟩:=rbox_of (HALL.out _ HX.out).1; obtain ⟨x0,x1,x2⟩:=trio_of (HALL.out _ HX.out).2.1; obtain ⟨e0,e1,e2,e3,e4,e5,e6,e7,e8,e9,e10⟩:=rbox_of (HALL.out _ HX.out).2.2.1; obtain ⟨y0,y1,y2⟩:=trio_of (HALL.out _ HX.out).2.2.2.1))
  go_upto_region 4 with (go_at_call 7; go_loud (refine (HRR.out _ ⟨Vi,Vl,Vo,Vb,Vc,Vj,Vf,Va,Vs,Vt⟩ ⟨.slice AI ni cI,.slice AR nr cR⟩ (HIN.out.1.below (HALL.out _ HX.out).2.2.2.2.2.2) (HIN.out.2.below (HALL.out _ HX.out).2.2.2.2.2.2)).mono ?_; rintro e w2 ⟨vb,rfl,hrb,hb⟩; have HRB:=zH (And.intro (HRA.out.below hb) (own_rowe (zs:=L) lenI (by rw [flat_ints]; exact hrb))); clear HRA hrb; have HXN:=zH (bt HX.out zN hb); clear HX hb c0 c1 c2 c3 c4 c5 c6 c7 c8 c9 c10 x0 x1 x2 e0 e1 e2 e3 e4 e5 e6 e7 e8 e9 e10 y0 y1 y2; have HX:=HXN; clear HXN; obtain ⟨c0,c1,c2,c3,c4,c5,c6,c7,c8,c9,c10⟩:=rbox_of (HALL.out _ HX.out).1; obtain ⟨x0,x1,x2⟩:=trio_of (HALL.out _ HX.out).2.1; obtain ⟨e0,e1,e2,e3,e4,e5,e6,e7,e8,e9,e10⟩:=rbox_of (HALL.out _ HX.out).2.2.1; obtain ⟨y0,y1,y2⟩:=trio_of (HALL.out _ HX.out).2.2.2.1))
  go_wp2_with (first
   | (go_at_call 8; go_loud (refine (HSI.out _ _ _ L HRB.out.1 HRB.out.2).mono ?_; rintro e w4 ⟨rfl,hb⟩; have HXN:=zH (bt HX.out zN hb); clear HX hb c0 c1 c2 c3 c4 c5 c6 c7 c8 c9 c10 x0 x1 x2 e0 e1 e2 e3 e4 e5 e6 e7 e8 e9 e10 y0 y1 y2; have HX:=HXN; clear HXN; obtain ⟨c0,c1,c2,c3,c4,c5,c6,c7,c8,c9,c10⟩:=rbox_of (HALL.out _ HX.out).1; obtain ⟨x0,x1,x2⟩:=trio_of (HALL.out _ HX.out).2.1; obtain ⟨e0,e1,e2,e3,e4,e5,e6,e7,e8,e9,e10⟩:=rbox_of (HALL.out _ HX.out).2.2.1; obtain ⟨y0,y1,y2⟩:=trio_of (HALL.out _ HX.out).2.2.2.1))
   | (go_at_call 9; go_loud (obtain ⟨BL,hlx⟩:=(HALL.out _ HX.out).2.2.2.2.1; refine (HKEPT.out _ _ _ _ _ hlx (HIN.out.1.below (HALL.out _ HX.out).2.2.2.2.2.2)).mono ?_; rintro e w8 ⟨rfl,hb⟩; clear hlx; have HXN:=zH (bt HX.out zN hb); clear HX hb c0 c1 c2 c3 c4 c5 c6 c7 c8 c9 c10 x0 x1 x2 e0 e1 e2 e3 e4 e5 e6 e7 e8 e9 e10 y0 y1 y2; have HX:=HXN; clear HXN; obtain ⟨c0,c1,c2,c3,c4,c5,c6,c7,c8,c9,c10⟩:=rbox_of (HALL.out _ HX.out).1; obtain ⟨x0,x1,x2⟩:=trio_of (HALL.out _ HX.out).2.1; obtain ⟨e0,e1,e2,e3,e4,e5,e6,e7,e8,e9,e10⟩:=rbox_of (HALL.out _ HX.out).2.2.1; obtain ⟨y0,y1,y2⟩:=trio_of (HALL.out _ HX.out).2.2.2.1))
   | (go_at_call 10; go_loud (refine (HSAME.out _ _ _ (HALL.out _ HX.out).2.2.2.2.2.1 (HIN.out.2.below (HALL.out _ HX.out).2.2.2.2.2.2)).mono ?_; rintro e w8 ⟨rfl,hb⟩; have HXN:=zH (bt HX.out zN hb); clear HX hb c0 c1 c2 c3 c4 c5 c6 c7 c8 c9 c10 x0 x1 x2 e0 e1 e2 e3 e4 e5 e6 e7 e8 e9 e10 y0 y1 y2; have HX:=HXN; clear HXN; obtain ⟨c0,c1,c2,c3,c4,c5,c6,c7,c8,c9,c10⟩:=rbox_of (HALL.out _ HX.out).1; obtain ⟨x0,x1,x2⟩:=trio_of (HALL.out _ HX.out).2.1; obtain ⟨e0,e1,e2,e3,e4,e5,e6,e7,e8,e9,e10⟩:=rbox_of (HALL.out _ HX.out).2.2.1; obtain ⟨y0,y1,y2⟩:=trio_of (HALL.out _ HX.out).2.2.2.1))
   | (go_at_call 11; go_loud (refine (worksR_any _).mono ?_; rintro e w8 ⟨rfl,hb⟩; have HXN:=zH (bt HX.out zN hb); clear HX hb c0 c1 c2 c3 c4 c5 c6 c7 c8 c9 c10 x0 x1 x2 e0 e1 e2 e3 e4 e5 e6 e7 e8 e9 e10 y0 y1 y2; have HX:=HXN; clear HXN; obtain ⟨c0,c1,c2,c3,c4,c5,c6,c7,c8,c9,c10⟩:=rbox_of (HALL.out _ HX.out).1; obtain ⟨x0,x1,x2⟩:=trio_of (HALL.out _ HX.out).2.1; obtain ⟨e0,e1,e2,e3,e4,e5,e6,e7,e8,e9,e10⟩:=rbox_of (HALL.out _ HX.out).2.2.1; obtain ⟨y0,y1,y2⟩:=trio_of (HALL.out _ HX.out).2.2.2.1)))
  go_ret
  exact ⟨rfl,(HALL.out _ HX.out).2.2.2.2.2.2⟩
end Go.Proofs.YtjbglgmbnjdhcaaGreat

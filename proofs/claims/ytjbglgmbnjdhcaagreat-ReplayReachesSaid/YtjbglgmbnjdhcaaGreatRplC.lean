import Derived.Test.YtjbglgmbnjdhcaaGreatRplB
namespace Go.Proofs.YtjbglgmbnjdhcaaGreat
open Go.RowKit

theorem runS_last (C : Circ) (O : List Int) (st : List Bool) (rows : List (List Bool)) (q : Nat) (r : List Bool) (h : rows[q]? = some r) (hl : rows.length = q + 1) : nextF C (valF C O (runS C O st (rows.take q)) r) = runS C O st rows := by
 rw [← runS_snoc]
 congr 1
 have h9:=List.take_add_one (l:=rows) (i:=q)
 rw [h,List.take_of_length_le (by omega)] at h9
 simpa using h9.symm
set_option maxHeartbeats 8000000 in
set_option maxRecDepth 100000 in
theorem closes_any (w : World) (V : CV) (C : Circ) (ls fs : List Int) (U : TV) (t : Tr) (O : List Int) (B gm : Nat) (xs : List MV) (cv : Value) (_hcv : cv.oneCell' = true) (h : (watchC C ls fs).In w V) (hck : (checkR (watchC C ls fs)).2 = 0) (ok : (watchC C ls fs).Ok) (ht : t.In w U) (hO : IsOrd C O) (hf : Fits C t)
 (hmb : MomB w gm t.rows.length xs) (hms : Moms w B xs (momsG (watchC C ls fs) O t.init t.rows)) :
 Calls Tryz.prog 54 #[.agg (walkCells V C.max U t.loop (.slice (some ⟨gm,0,none⟩) t.rows.length t.rows.length) cv)] w fun e w' => e = .returned (.bool (closesB C O t)) ∧ Below w.heap.size w w':=by
 have hn1:=hf.n1
 have hn2:=hf.n2
 have hlp:=hf.l
 obtain ⟨AR,rc,eR,_,hrr⟩:=ht.r.at_
 obtain ⟨q,hq⟩ : ∃ q,t.rows.length = q + 1:=⟨t.rows.length - 1,by omega⟩
 obtain ⟨row,hrow⟩ : ∃ r,t.rows[q]? = some r:=⟨_,List.getElem?_eq_getElem (by omega)⟩
 obtain ⟨rb,ro,u,e,hrb,hu,hur⟩:=hrr q row hrow
 subst e
 have hlast:=runS_last C O t.init t.rows q row hrow hq
 have hrl : row.length = C.inputs.length:=hf.r row (List.mem_of_getElem? hrow)
 have hml : (momsG (watchC C ls fs) O t.init t.rows).length = q + 1:=by rw [momsG_len,hq]
 obtain ⟨T,hT⟩ : ∃ T,(valsG C O t.init t.rows)[q]? = some T:=⟨_,List.getElem?_eq_getElem (by rw [valsG_len]; omega)⟩
 have hmq0:=momsG_watch C O ls fs t.rows t.init q
 rw [hT] at hmq0
 obtain ⟨mq,hmq⟩ : ∃ mm : Mom,(momsG (watchC C ls fs) O t.init t.rows)[q]? = some mm ∧ mm.st = runS C O t.init (t.rows.take q):=⟨_,hmq0,rfl⟩
 obtain ⟨x,hx⟩ : ∃ x,xs[q]? = some x:=⟨_,List.getElem?_eq_getElem (by rw [hms.len,hml]; omega)⟩
 have hxr:=hms.at_ q x mq hx hmq.1
 have hxc:=(hmb.cells hx).1
 have hst : mq.st.length = (watchC C ls fs).latches.length:=by rw [hmq.2]; exact runS_len C O hf.i _
 obtain ⟨sA,sc,hse⟩:=own_slice1 hxr.s
 have hsr : RowE 1 encO w x.s mq.st:=own_rowe lenO (by rw [flat_bools]; exact hxr.s)
 rw [hse] at hxc hsr
 have hfe : fitE (watchC C ls fs) mq.st row = 0:=fitE_yes hck hst hrl
 have HNX:=zH (fun (wx : World) (hb : Below w.heap.size w wx) => Next_any wx V (watchC C ls fs) _ u mq.st row O (h.below hb) ok (hsr.below hb) (hur.below hb) (fun _ => watch_ord hO))
 have hlast2 : nextF (watchC C ls fs) (valF (watchC C ls fs) O mq.st row) = runS C O t.init t.rows:=by rw [hmq.2]; exact hlast
 rw [hfe,hlast2] at HNX
 have hce : t.loop ≠ -1 → ∃ (l : Nat) (y : MV) (lA : Option Addr) (lc : Nat) (my : Mom),t.loop = (l : Int) ∧ l < t.rows.length ∧ xs[l]? = some y ∧ y.s = .slice lA my.st.length lc ∧ RowE 1 encO w (.slice lA my.st.length lc) my.st ∧ my.st = runS C O t.init (t.rows.take t.loop.toNat):=fun h9 => by
  obtain ⟨l,hl⟩ : ∃ l : Nat,t.loop = (l : Int):=⟨t.loop.toNat,by omega⟩
  have hll : l < t.rows.length:=by omega
  obtain ⟨T2,hT2⟩ : ∃ T,(valsG C O t.init t.rows)[l]? = some T:=⟨_,List.getElem?_eq_getElem (by rw [valsG_len]; omega)⟩
  have hmy0:=momsG_watch C O ls fs t.rows t.init l
  rw [hT2] at hmy0
  obtain ⟨y,hy⟩ : ∃ x,xs[l]? = some x:=⟨_,List.getElem?_eq_getElem (by rw [hms.len,hml]; omega)⟩
  have hyr:=hms.at_ l y _ hy hmy0
  obtain ⟨lA,lc,hle⟩:=own_slice1 hyr.s
  have hyw : RowE 1 encO w y.s _:=own_rowe lenO (by rw [flat_bools]; exact hyr.s)
  rw [hle] at hyw
  exact ⟨l,y,lA,lc,_,hl,hll,hy,hle,hyw,by rw [hl]; rfl⟩
 have HCE:=zH hce
 have HFI:=zH hf.i
 have HNL2:=zH (right_of hck).nl
 obtain ⟨r,hr⟩ : ∃ r,closesB C O t = r:=⟨_,rfl⟩
 have HR:=zH hr
 rw [hr]
 obtain ⟨Vi,Vl,Vo,Vb,Vc,Vj,Vf,Va,Vs,Vt⟩:=V
 obtain ⟨Ui,Ur⟩:=U
 simp only at eR
 subst eR
 obtain ⟨m,hmm⟩ : ∃ m,C.max = m:=⟨_,rfl⟩
 obtain ⟨n,hn⟩ : ∃ n,t.rows.length = n:=⟨_,rfl⟩
 obtain ⟨lp,hle⟩ : ∃ lp,t.loop = lp:=⟨_,rfl⟩
 obtain ⟨sn,hsn⟩ : ∃ k,mq.st.length = k:=⟨_,rfl⟩
 obtain ⟨nl,hnl⟩ : ∃ k,(watchC C ls fs).latches.length = k:=⟨_,rfl⟩
 rw [show (watchC C ls fs).max = m from hmm,hsn,hnl] at HNX
 rw [hsn] at hxc
 rw [hn] at hn1 hn2 hlp hq hmb HCE
 rw [hle] at hlp HCE
 rw [hmm,hn,hle]
 have HMB:=zH hmb
 have HNM:=zH (And.intro hn hle)
 have HNL:=zH hnl
 have hqn : q < n:=by omega
 have hw9 : IntKind.i64.wrap ((n : Int) - 1) = (q : Int):=by rw [IntKind.wrap_i64] <;> omega
 have hq0 : (0 : Int) ≤ (q : Int):=by omega
 have hq1 : (q : Int) < (n : Int):=by omega
 clear hq
 have hX0 : Blk (w.alloc (.cells #[.int .i64 m,Vi,Vl,Vo,Vb,Vc,Vj,Vf,Va,Vs,Vt,Ui,.slice (some ⟨rb,ro,none⟩) n rc,.int .i64 lp,.slice (some ⟨gm,0,none⟩) n n,cv] 53)) w.heap.size 53 #[.int .i64 m,Vi,Vl,Vo,Vb,Vc,Vj,Vf,Va,Vs,Vt,Ui,.slice (some ⟨rb,ro,none⟩) n rc,.int .i64 lp,.slice (some ⟨gm,0,none⟩) n n,cv]:=Blk.new w _ _
 have HSS : Hid (∀ wz,Below (w.alloc (.cells #[.int .i64 m,Vi,Vl,Vo,Vb,Vc,Vj,Vf,Va,Vs,Vt,Ui,.slice (some ⟨rb,ro,none⟩) n rc,.int .i64 lp,.slice (some ⟨gm,0,none⟩) n n,cv] 53)).heap.size (w.alloc (.cells #[.int .i64 m,Vi,Vl,Vo,Vb,Vc,Vj,Vf,Va,Vs,Vt,Ui,.slice (some ⟨rb,ro,none⟩) n rc,.int .i64 lp,.slice (some ⟨gm,0,none⟩) n n,cv] 53)) wz → wz.cell? ⟨w.heap.size,0,none⟩ = some (.int .i64 m) ∧ wz.cell? ⟨w.heap.size,1,none⟩ = some Vi ∧ wz.cell? ⟨w.heap.size,2,none⟩ = some Vl ∧ wz.cell? ⟨w.heap.size,3,none⟩ = some Vo ∧ wz.cell? ⟨w.heap.size,4,none⟩ = some Vb ∧ wz.cell? ⟨w.heap.size,5,none⟩ = some Vc ∧ wz.cell? ⟨w.heap.size,6,none⟩ = some Vj ∧ wz.cell? ⟨w.heap.size,7,none⟩ = some Vf ∧ wz.cell? ⟨w.heap.size,8,none⟩ = some Va ∧ wz.cell? ⟨w.heap.size,9,none⟩ = some Vs ∧ wz.cell? ⟨w.heap.size,10,none⟩ = some Vt ∧ wz.cell? ⟨w.heap.size,11,none⟩ = some Ui ∧ wz.cell? ⟨w.heap.size,12,none⟩ = some (.slice (some ⟨rb,ro,none⟩) n rc) ∧ wz.cell? ⟨w.heap.size,13,none⟩ = some (.int .i64 lp) ∧ wz.cell? ⟨w.heap.size,14,none⟩ = some (.slice (some ⟨gm,0,none⟩) n n) ∧ wz.cell? ⟨w.heap.size,15,none⟩ = some cv ∧ wz.cell? ⟨gm,q * 4,none⟩ = some (.slice sA sn sc) ∧ wz.cell? ⟨rb,ro + q,none⟩ = some u):=zH (fun wz hz => by
  have h1 : Below w.heap.size w wz:=((Below.refl w.heap.size w).alloc zN _).trans (hz.mono (by simp))
  have k:=hX0.below hz hX0.lt
  exact ⟨k.cell 0,k.cell 1,k.cell 2,k.cell 3,k.cell 4,k.cell 5,k.cell 6,k.cell 7,k.cell 8,k.cell 9,k.cell 10,k.cell 11,k.cell 12,k.cell 13,k.cell 14,k.cell 15,(h1.cell (p:=⟨gm,q * 4,none⟩) HMB.out.lt).trans hxc,(h1.cell (p:=⟨rb,ro + q,none⟩) hrb).trans hu⟩)
 have HW : Hid (∀ wz,Below (w.alloc (.cells #[.int .i64 m,Vi,Vl,Vo,Vb,Vc,Vj,Vf,Va,Vs,Vt,Ui,.slice (some ⟨rb,ro,none⟩) n rc,.int .i64 lp,.slice (some ⟨gm,0,none⟩) n n,cv] 53)).heap.size (w.alloc (.cells #[.int .i64 m,Vi,Vl,Vo,Vb,Vc,Vj,Vf,Va,Vs,Vt,Ui,.slice (some ⟨rb,ro,none⟩) n rc,.int .i64 lp,.slice (some ⟨gm,0,none⟩) n n,cv] 53)) wz → Below w.heap.size w wz):=zH (fun wz hz => ((Below.refl w.heap.size w).alloc zN _).trans (hz.mono (by simp)))
 obtain ⟨W0,hW0⟩ : ∃ W0,W0 = w.alloc (.cells #[.int .i64 m,Vi,Vl,Vo,Vb,Vc,Vj,Vf,Va,Vs,Vt,Ui,.slice (some ⟨rb,ro,none⟩) n rc,.int .i64 lp,.slice (some ⟨gm,0,none⟩) n n,cv] 53):=⟨_,rfl⟩
 rw [← hW0] at HSS HW
 obtain ⟨c0,c1,c2,c3,c4,c5,c6,c7,c8,c9,c10,c11,c12,c13,c14,c15,e0,e1⟩:=HSS.out W0 (Below.refl _ _)
 clear hX0 hxc hrb hu hmb hms hx hxr hsr hur hst hmq hmq0 hT hml hrl hlast hlast2 hrow hrr ht hf h hck ok hO hce hr hmm hn hle hsn hnl hfe
 have HW0:=zH hW0
 clear hW0
 by_cases hl9 : lp = -1
 · subst hl9
   have hb9 : ((-1 : Int) == (-1 : Int)) = true:=by decide
   have HRE : Hid (false = r):=zH (by rw [← HR.out]; unfold closesB; rw [HNM.out.2]; rfl)
   go_enter Tryz.func54,Tryz.ntmps54
   go_upto_region 1 with (fail)
   rw [← HW0.out]
   go_wp2
   go_ret
   exact ⟨ret_bool HRE.out,HW.out _ (Below.refl _ _)⟩
 · have hb9 : (lp == (-1 : Int)) = false:=by simpa using hl9
   obtain ⟨l,y,lA,lc,my,rfl,hll,hy,hye,hyw,hyst⟩:=HCE.out hl9
   have hyc:=(HMB.out.cells hy).1
   rw [hye] at hyc
   obtain ⟨ln,hln⟩ : ∃ k,my.st.length = k:=⟨_,rfl⟩
   rw [hln] at hyc
   have HYW:=zH hyw
   have HYS:=zH hyst
   have HLN:=zH hln
   have HYC:=zH (fun (wx : World) (hb : Below w.heap.size w wx) => (hb.cell (p:=⟨gm,l * 4,none⟩) HMB.out.lt).trans hyc)
   have hl0 : (0 : Int) ≤ (l : Int):=by omega
   have hl1 : (l : Int) < (n : Int):=by omega
   clear hyw hyst hln hyc hy hye hl9 HCE
   go_enter Tryz.func54,Tryz.ntmps54
   go_upto_region 1 with (fail)
   rw [← HW0.out]
   go_upto_region 4 with (fail)
   refine wp_region_T (by kernel_rfl) (fun wz => wz.cell? ⟨w.heap.size,0,none⟩ = some (.int .i64 m) ∧ wz.cell? ⟨w.heap.size,1,none⟩ = some Vi ∧ wz.cell? ⟨w.heap.size,2,none⟩ = some Vl ∧ wz.cell? ⟨w.heap.size,3,none⟩ = some Vo ∧ wz.cell? ⟨w.heap.size,4,none⟩ = some Vb ∧ wz.cell? ⟨w.heap.size,5,none⟩ = some Vc ∧ wz.cell? ⟨w.heap.size,6,none⟩ = some Vj ∧ wz.cell? ⟨w.heap.size,7,none⟩ = some Vf ∧ wz.cell? ⟨w.heap.size,8,none⟩ = some Va ∧ wz.cell? ⟨w.heap.size,9,none⟩ = some Vs ∧ wz.cell? ⟨w.heap.size,10,none⟩ = some Vt ∧ wz.cell? ⟨w.heap.size,11,none⟩ = some Ui ∧ wz.cell? ⟨w.heap.size,12,none⟩ = some (.slice (some ⟨rb,ro,none⟩) n rc) ∧ wz.cell? ⟨w.heap.size,13,none⟩ = some (.int .i64 (l : Int)) ∧ wz.cell? ⟨w.heap.size,14,none⟩ = some (.slice (some ⟨gm,0,none⟩) n n) ∧ wz.cell? ⟨w.heap.size,15,none⟩ = some cv ∧ wz.cell? ⟨gm,q * 4,none⟩ = some (.slice sA sn sc) ∧ wz.cell? ⟨rb,ro + q,none⟩ = some u) 20 ?_
   have HD0 : Hid (Below W0.heap.size W0 W0.drew):=zH (Below.refl _ _).drew
   have hHeld:=HSS.out _ HD0.out
   clear c0 c1 c2 c3 c4 c5 c6 c7 c8 c9 c10 c11 c12 c13 c14 c15 e0 e1
   refine wpAnyT_take (i:=0) (oi:={ dst:=some 15,op:=Op.fieldAddr 53 (Operand.tmp 1) 0,type:=0,pos:="walk.go:92",after:=#[],guard:=none }) (v:=?v0r4q1) rfl (by kernel_rfl) (fun _ _ _ h => h) (by rfl) hHeld ?h0r4q1 ?_
   case h0r4q1 => (intro w' hSw; (try dsimp only at hSw); go_simp; try with_reducible rfl)
   (try simp only [Act.put,zA,zB,zC])
   refine wpAnyT_take (i:=1) (oi:={ dst:=some 16,op:=Op.load 29 (Operand.tmp 15),type:=29,pos:="walk.go:92",after:=#[{ on:=0,ground:=Ground.data }],guard:=none }) (v:=?v1r4q1) rfl (by kernel_rfl) (fun _ _ _ h => h) (by rfl) hHeld ?h1r4q1 ?_
   case h1r4q1 => (intro w' hSw; (try dsimp only at hSw); go_simp; try with_reducible rfl)
   (try simp only [Act.put,zA,zB,zC])
   refine wpAnyT_take (i:=2) (oi:={ dst:=some 17,op:=Op.fieldAddr 53 (Operand.tmp 1) 2,type:=0,pos:="walk.go:92",after:=#[],guard:=none }) (v:=?v2r4q1) rfl (by kernel_rfl) (fun _ _ _ h => h) (by rfl) hHeld ?h2r4q1 ?_
   case h2r4q1 => (intro w' hSw; (try dsimp only at hSw); go_simp; try with_reducible rfl)
   (try simp only [Act.put,zA,zB,zC])
   refine wpAnyT_take (i:=3) (oi:={ dst:=some 18,op:=Op.load 51 (Operand.tmp 17),type:=51,pos:="walk.go:92",after:=#[{ on:=2,ground:=Ground.data }],guard:=none }) (v:=?v3r4q1) rfl (by kernel_rfl) (fun _ _ _ h => h) (by rfl) hHeld ?h3r4q1 ?_
   case h3r4q1 => (intro w' hSw; (try dsimp only at hSw); go_simp; try with_reducible rfl)
   (try simp only [Act.put,zA,zB,zC])
   refine wpAnyT_take (i:=4) (oi:={ dst:=some 19,op:=Op.move (Operand.tmp 3),type:=3,pos:="walk.go:92",after:=#[],guard:=none }) (v:=?v4r4q1) rfl (by kernel_rfl) (fun _ _ _ h => h) (by rfl) hHeld ?h4r4q1 ?_
   case h4r4q1 => (intro w' hSw; (try dsimp only at hSw); go_simp; try with_reducible rfl)
   (try simp only [Act.put,zA,zB,zC])
   refine wpAnyT_take (i:=5) (oi:={ dst:=some 20,op:=Op.indexAddr 51 (Operand.tmp 18) (Operand.tmp 19),type:=0,pos:="walk.go:92",after:=#[{ on:=3,ground:=Ground.data },{ on:=4,ground:=Ground.data }],guard:=none }) (v:=?v5r4q1) rfl (by kernel_rfl) (fun _ _ _ h => h) (by rfl) hHeld ?h5r4q1 ?_
   case h5r4q1 => (intro w' hSw; (try dsimp only at hSw); go_simp; try with_reducible rfl)
   (try simp only [Act.put,zA,zB,zC])
   refine wpAnyT_take (i:=6) (oi:={ dst:=some 21,op:=Op.fieldAddr 62 (Operand.tmp 20) 0,type:=0,pos:="walk.go:92",after:=#[{ on:=5,ground:=Ground.data }],guard:=none }) (v:=?v6r4q1) rfl (by kernel_rfl) (fun _ _ _ h => h) (by rfl) hHeld ?h6r4q1 ?_
   case h6r4q1 => (intro w' hSw; (try dsimp only at hSw); go_simp; try with_reducible rfl)
   (try simp only [Act.put,zA,zB,zC])
   refine wpAnyT_take (i:=7) (oi:={ dst:=some 22,op:=Op.load 30 (Operand.tmp 21),type:=30,pos:="walk.go:92",after:=#[{ on:=6,ground:=Ground.data }],guard:=none }) (v:=?v7r4q1) rfl (by kernel_rfl) (fun _ _ _ h => h) (by rfl) hHeld ?h7r4q1 ?_
   case h7r4q1 => (intro w' hSw; (try dsimp only at hSw); go_simp; try with_reducible rfl)
   (try simp only [Act.put,zA,zB,zC])
   refine wpAnyT_take (i:=8) (oi:={ dst:=some 23,op:=Op.fieldAddr 53 (Operand.tmp 1) 1,type:=0,pos:="walk.go:92",after:=#[],guard:=none }) (v:=?v8r4q1) rfl (by kernel_rfl) (fun _ _ _ h => h) (by rfl) hHeld ?h8r4q1 ?_
   case h8r4q1 => (intro w' hSw; (try dsimp only at hSw); go_simp; try with_reducible rfl)
   (try simp only [Act.put,zA,zB,zC])
   refine wpAnyT_take (i:=9) (oi:={ dst:=some 24,op:=Op.fieldAddr 33 (Operand.tmp 23) 1,type:=0,pos:="walk.go:92",after:=#[{ on:=8,ground:=Ground.data }],guard:=none }) (v:=?v9r4q1) rfl (by kernel_rfl) (fun _ _ _ h => h) (by rfl) hHeld ?h9r4q1 ?_
   case h9r4q1 => (intro w' hSw; (try dsimp only at hSw); go_simp; try with_reducible rfl)
   (try simp only [Act.put,zA,zB,zC])
   refine wpAnyT_take (i:=10) (oi:={ dst:=some 25,op:=Op.load 31 (Operand.tmp 24),type:=31,pos:="walk.go:92",after:=#[{ on:=9,ground:=Ground.data }],guard:=none }) (v:=?v10r4q1) rfl (by kernel_rfl) (fun _ _ _ h => h) (by rfl) hHeld ?h10r4q1 ?_
   case h10r4q1 => (intro w' hSw; (try dsimp only at hSw); go_simp; try with_reducible rfl)
   (try simp only [Act.put,zA,zB,zC])
   refine wpAnyT_take (i:=11) (oi:={ dst:=some 26,op:=Op.move (Operand.tmp 3),type:=3,pos:="walk.go:92",after:=#[],guard:=none }) (v:=?v11r4q1) rfl (by kernel_rfl) (fun _ _ _ h => h) (by rfl) hHeld ?h11r4q1 ?_
   case h11r4q1 => (intro w' hSw; (try dsimp only at hSw); go_simp; try with_reducible rfl)
   (try simp only [Act.put,zA,zB,zC])
   refine wpAnyT_take (i:=12) (oi:={ dst:=some 27,op:=Op.indexAddr 31 (Operand.tmp 25) (Operand.tmp 26),type:=0,pos:="walk.go:92",after:=#[{ on:=10,ground:=Ground.data },{ on:=11,ground:=Ground.data }],guard:=none }) (v:=?v12r4q1) rfl (by kernel_rfl) (fun _ _ _ h => h) (by rfl) hHeld ?h12r4q1 ?_
   case h12r4q1 => (intro w' hSw; (try dsimp only at hSw); go_simp; try with_reducible rfl)
   (try simp only [Act.put,zA,zB,zC])
   refine wpAnyT_take (i:=13) (oi:={ dst:=some 28,op:=Op.load 30 (Operand.tmp 27),type:=30,pos:="walk.go:92",after:=#[{ on:=12,ground:=Ground.data }],guard:=none }) (v:=?v13r4q1) rfl (by kernel_rfl) (fun _ _ _ h => h) (by rfl) hHeld ?h13r4q1 ?_
   case h13r4q1 => (intro w' hSw; (try dsimp only at hSw); go_simp; try with_reducible rfl)
   (try simp only [Act.put,zA,zB,zC])
   clear hHeld
   refine wpAnyT_one (i:=14) rfl (by kernel_rfl) (fun K hK => ?_)
   go_simp
   go_at_call 76
   refine (HNX.out _ (HW.out _ HD0.out)).mono ?_
   rintro e w2 ⟨hb2,v,rfl,_,hyes⟩
   obtain ⟨gn,rfl,hgn,htb⟩:=hyes rfl
   have HB2:=zH (bt HD0.out zN hb2)
   have HTB:=zH htb
   clear hb2 hyes hgn htb
   refine hK.out _ _ (fun _ => HSS.out _ HB2.out) ?_
   clear hK K
   (try simp only [Act.put,zA,zB,zC])
   have hHeld:=HSS.out _ HB2.out
   refine wpAnyT_take (i:=15) (oi:={ dst:=some 14,op:=Op.move (Operand.tmp 29),type:=119,pos:="walk.go:92",after:=#[{ on:=14,ground:=Ground.data }],guard:=none }) (v:=?v15r4q2) rfl (by kernel_rfl) (fun _ _ _ h => h) (by rfl) hHeld ?h15r4q2 ?_
   case h15r4q2 => (intro w' hSw; (try dsimp only at hSw); go_simp; try with_reducible rfl)
   (try simp only [Act.put,zA,zB,zC])
   refine wpAnyT_take (i:=16) (oi:={ dst:=some 30,op:=Op.extract (Operand.tmp 14) 0,type:=30,pos:="walk.go:92",after:=#[{ on:=15,ground:=Ground.data }],guard:=none }) (v:=?v16r4q2) rfl (by kernel_rfl) (fun _ _ _ h => h) (by rfl) hHeld ?h16r4q2 ?_
   case h16r4q2 => (intro w' hSw; (try dsimp only at hSw); go_simp; try with_reducible rfl)
   (try simp only [Act.put,zA,zB,zC])
   refine wpAnyT_take (i:=17) (oi:={ dst:=some 31,op:=Op.extract (Operand.tmp 14) 1,type:=36,pos:="walk.go:92",after:=#[{ on:=15,ground:=Ground.data },{ on:=18,ground:=Ground.gcOnly Departure.lateStores }],guard:=none }) (v:=?v17r4q2) rfl (by kernel_rfl) (fun _ _ _ h => h) (by rfl) hHeld ?h17r4q2 ?_
   case h17r4q2 => (intro w' hSw; (try dsimp only at hSw); go_simp; try with_reducible rfl)
   (try simp only [Act.put,zA,zB,zC])
   refine wpAnyT_take (i:=18) (oi:={ dst:=some 4,op:=Op.assign (Operand.tmp 30),type:=30,pos:="walk.go:92",after:=#[{ on:=16,ground:=Ground.data },{ on:=14,ground:=Ground.chain },{ on:=0,ground:=Ground.phase },{ on:=1,ground:=Ground.phase },{ on:=2,ground:=Ground.phase },{ on:=3,ground:=Ground.phase },{ on:=4,ground:=Ground.phase },{ on:=5,ground:=Ground.phase },{ on:=6,ground:=Ground.phase },{ on:=7,ground:=Ground.phase },{ on:=8,ground:=Ground.phase },{ on:=9,ground:=Ground.phase },{ on:=10,ground:=Ground.phase },{ on:=11,ground:=Ground.phase },{ on:=12,ground:=Ground.phase },{ on:=13,ground:=Ground.phase },{ on:=14,ground:=Ground.phase },{ on:=15,ground:=Ground.phase },{ on:=16,ground:=Ground.phase },{ on:=17,ground:=Ground.textOnly Departure.lateStores }],guard:=none }) (v:=?v18r4q2) rfl (by kernel_rfl) (fun _ _ _ h => h) (by rfl) hHeld ?h18r4q2 ?_
   case h18r4q2 => (intro w' hSw; (try dsimp only at hSw); go_simp; try with_reducible rfl)
   (try simp only [Act.put,zA,zB,zC])
   refine wpAnyT_take (i:=19) (oi:={ dst:=some 5,op:=Op.assign (Operand.tmp 31),type:=36,pos:="walk.go:92",after:=#[{ on:=17,ground:=Ground.data },{ on:=18,ground:=Ground.chain },{ on:=0,ground:=Ground.phase },{ on:=1,ground:=Ground.phase },{ on:=2,ground:=Ground.phase },{ on:=3,ground:=Ground.phase },{ on:=4,ground:=Ground.phase },{ on:=5,ground:=Ground.phase },{ on:=6,ground:=Ground.phase },{ on:=7,ground:=Ground.phase },{ on:=8,ground:=Ground.phase },{ on:=9,ground:=Ground.phase },{ on:=10,ground:=Ground.phase },{ on:=11,ground:=Ground.phase },{ on:=12,ground:=Ground.phase },{ on:=13,ground:=Ground.phase },{ on:=14,ground:=Ground.phase },{ on:=15,ground:=Ground.phase },{ on:=16,ground:=Ground.phase },{ on:=17,ground:=Ground.phase },{ on:=18,ground:=Ground.phase }],guard:=none }) (v:=?v19r4q2) rfl (by kernel_rfl) (fun _ _ _ h => h) (by rfl) hHeld ?h19r4q2 ?_
   case h19r4q2 => (intro w' hSw; (try dsimp only at hSw); go_simp; try with_reducible rfl)
   (try simp only [Act.put,zA,zB,zC])
   clear hHeld
   refine wpAnyT_done (by kernel_rfl) ?_
   obtain ⟨c0,c1,c2,c3,c4,c5,c6,c7,c8,c9,c10,c11,c12,c13,c14,c15,e0,e1⟩:=HSS.out _ HB2.out
   have y0:=HYC.out _ (HW.out _ HB2.out)
   have hee : ((0 : Int) == (0 : Int)) = true:=by decide
   have hlen : (runS C O t.init t.rows).length = nl:=(runS_len C O HFI.out _).trans HNL.out
   have hr1:=tabT_row HTB.out (by rw [hlen,← HNL.out]; have h9:=HNL2.out; unfold maxLen; omega)
   rw [hlen] at hr1
   have hr2:=HYW.out.below (HW.out _ HB2.out)
   rw [HLN.out] at hr2
   have HEQ:=zH (EqualO_any w2 _ _ _ _ hr1 hr2)
   clear hlen hr1 hr2
   have HRE : Hid (decide (runS C O t.init t.rows = my.st) = r):=zH (by
    rw [← HR.out,HYS.out]
    unfold closesB
    rw [HNM.out.2,decide_eq_true (show (l : Int) ≠ -1 by omega),Bool.true_and])
   go_wp2_with (go_at_call 77; refine HEQ.out.mono ?_; rintro e w3 ⟨rfl,hb3⟩; have HB3:=zH (bt HB2.out zN hb3); clear hb3)
   go_ret
   exact ⟨ret_bool HRE.out,HW.out _ HB3.out⟩
end Go.Proofs.YtjbglgmbnjdhcaaGreat

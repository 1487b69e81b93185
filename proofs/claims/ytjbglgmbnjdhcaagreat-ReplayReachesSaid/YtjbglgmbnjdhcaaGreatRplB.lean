import Derived.Test.YtjbglgmbnjdhcaaGreatRplA
import Derived.Test.YtjbglgmbnjdhcaaGreatTrnF
import Derived.Test.YtjbglgmbnjdhcaaGreatRenE
import Derived.WalkMore
namespace Go.Proofs.YtjbglgmbnjdhcaaGreat
open Go.RowKit

abbrev zeroW : Array Value := #[.int .i64 0,.slice none 0 0,.slice none 0 0,.slice none 0 0,.slice none 0 0,.slice none 0 0,.slice none 0 0,.slice none 0 0,.slice none 0 0,.slice none 0 0,.slice none 0 0,.slice none 0 0,.slice none 0 0,.int .i64 0,.slice none 0 0,.slice none 0 0]
theorem rowe_one {E : Type} {k : Nat} {enc : E → List Value} {w : World} {v : Value} {zs : List E} (h : RowE k enc w v zs) : v.oneCell' = true := by obtain ⟨A,c,rfl,_⟩ := h; rfl
def truncR (w : World) (B : Nat) : World := { w with heap := w.heap.extract 0 B }
theorem truncR_size {w : World} {B : Nat} (h : B ≤ w.heap.size) : (truncR w B).heap.size = B := by simp [truncR]; omega
theorem truncR_get {w : World} {B k : Nat} (h : k < B) (hB : B ≤ w.heap.size) : (truncR w B).heap[k]? = w.heap[k]? := by
 simp only [truncR,Array.getElem?_extract]
 rw [if_pos (by omega)]
 simp
theorem truncR_below {w : World} {B : Nat} (h : B ≤ w.heap.size) : Below B (truncR w B) w :=
 ⟨rfl,rfl,rfl,by rw [truncR_size h]; exact h,fun k hk => (truncR_get hk h).symm⟩
theorem Moms.turn {w w' : World} {B : Nat} {xs : List MV} {ms : List Mom} (h : Moms w B xs ms) (hk : ∀ g,B ≤ g → g < w.heap.size → w'.heap[g]? = w.heap[g]?) : Moms w' B xs ms :=
 ⟨h.len,fun i x m hx hm => (h.at_ i x m hx hm).keep (fun g hg => by have:=(h.at_ i x m hx hm).lt hg; exact hk g this.1 this.2),h.apart⟩
theorem MomB.turn {w w' : World} {gm n : Nat} {xs : List MV} (h : MomB w gm n xs) (hk : w'.heap[gm]? = w.heap[gm]?) : MomB w' gm n xs := by
 obtain ⟨cs,h1,h2,h3⟩:=h
 exact ⟨cs,hk.trans h1,h2,h3⟩
theorem storeW (w : World) (b : Nat) (cs ds : Array Value) (h : Blk w b 53 cs) {B : Nat} (hB : B ≤ b) : Below B w (w.setRow b ds) ∧ (w.setRow b ds).heap[b]? = some (.cells ds 53 (0,0)) ∧ (w.setRow b ds).heap.size = w.heap.size :=
 ⟨⟨rfl,rfl,rfl,by rw [size_setRow]; exact Nat.le_refl _,fun k hk => setRow_other _ _ _ _ (by omega)⟩,setRow_heap _ _ _ _ _ _ h,size_setRow _ _ _⟩
theorem cameR_snoc (_C : Circ) (ls fs : List Int) (Ts : List (List Bool)) (k : Nat) (T : List Bool) (h : Ts[k]? = some T) (fr : Nat) (hf : fr ≤ k) : seeF ls.length ((placesF ls T).map (fun p => ((0 : Int),p)) ++ (placesF fs T).map (fun p => ((-1 : Int),p))) (cameS (ls ++ fs) ((Ts.take k).drop fr)) = cameS (ls ++ fs) ((Ts.take (k + 1)).drop fr) := by
 rw [see_step,List.take_add_one,h]
 have hk : k < Ts.length:=(List.getElem?_eq_some_iff.1 h).1
 rw [List.drop_append_of_le_length (by rw [List.length_take]; omega)]
 rfl
theorem cameR_skip (zs : List Int) (Ts : List (List Bool)) (k fr : Nat) (hf : k < fr) : cameS zs ((Ts.take (k + 1)).drop fr) = cameS zs ((Ts.take k).drop fr) := by
 rw [List.drop_of_length_le (by rw [List.length_take]; omega),List.drop_of_length_le (by rw [List.length_take]; omega)]
theorem retW {v : Value} {a b c d : Int} (h1 : a = c) (h2 : b = d) : Ending.returned (.tuple #[v,.int .i64 a,.int .i64 b]) = .returned (.tuple #[v,.int .i64 c,.int .i64 d]) := by rw [h1,h2]
set_option maxHeartbeats 8000000 in
set_option maxRecDepth 100000 in
theorem walkOf_any (w : World) (V : CV) (C : Circ) (ls fs : List Int) (U : TV) (t : Tr) (fr : Int) (O : List Int) (gj : Nat) (lA : Option Addr) (lc : Nat) (h : (watchC C ls fs).In w V) (hV : V.j = .slice (some ⟨gj,0,none⟩) 1 1) (hj : Blk w gj 22 #[.slice lA ls.length lc])
 (hck : (checkR (watchC C ls fs)).2 = 0) (ok : (watchC C ls fs).Ok) (rm : (watchC C ls fs).Room) (ht : t.In w U) (hO : IsOrd C O) (nl : ls.length ≤ 16384) (nf : fs.length ≤ 16384) (hfr : fitsB C t = true → -1 ≤ fr) :
 Calls Tryz.prog 15 #[V.val C.max,U.val t.loop,.int .i64 fr] w fun e w' => Below w.heap.size w w' ∧ ∃ cs : Array Value,e = .returned (.tuple #[.agg cs,.int .i64 (walkR C O t).1,.int .i64 (walkR C O t).2]) ∧ ((walkR C O t).2 ≠ 0 → cs = zeroW) ∧
  ((walkR C O t).2 = 0 → ∃ gm xs g,cs = walkCells V C.max U t.loop (.slice (some ⟨gm,0,none⟩) t.rows.length t.rows.length) (.slice (some ⟨g,0,none⟩) (ls.length + fs.length) (ls.length + fs.length)) ∧ w.heap.size ≤ gm ∧ MomB w' gm t.rows.length xs ∧
    Moms w' w.heap.size xs (momsG (watchC C ls fs) O t.init t.rows) ∧ w.heap.size ≤ g ∧ Tab w' g (cameS (ls ++ fs) ((valsT C O t).drop fr.toNat))):=by
 have hrt:=right_of hck
 have HRUN:=zH (fun (wx : World) (hb : Below w.heap.size w wx) => Run_any wx V (watchC C ls fs) U t O (h.below hb) ok rm (ht.below hb) (fun _ => watch_ord hO))
 have HFW:=zH (fun (wx : World) (hb : Below w.heap.size w wx) (hl : t.init.length = (watchC C ls fs).latches.length) => firstWrong_any wx V (watchC C ls fs) U.i t.init (h.below hb) hrt hl (ht.i.below hb))
 have hre : runE (watchC C ls fs) t = if fitsB C t = true then 0 else 4:=by unfold runE; rw [if_pos hck]; rfl
 have HJ:=zH hj
 have hone:=And.intro (rowe_one h.i) (And.intro (rowe_one h.l) (And.intro (rowe_one h.o) (And.intro (rowe_one h.b) (And.intro (rowe_one h.c) (And.intro (rowe_one h.a) (And.intro (rowe_one h.s) (rowe_one h.t)))))))
 obtain ⟨AI,nI,cI,eI⟩:=slO_form ht.i
 obtain ⟨AR,cR,eR,-,-⟩:=ht.r.at_
 obtain ⟨AF,cF,eF,-⟩ : ∃ A c,V.f = .slice A fs.length c ∧ True:=by obtain ⟨A,c,e,_⟩:=h.f; exact ⟨A,c,e,trivial⟩
 obtain ⟨Vi,Vl,Vo,Vb,Vc,Vj,Vf,Va,Vs,Vt⟩:=V
 obtain ⟨Ui,Ur⟩:=U
 simp only at hV eI eR eF
 simp only at hone
 have HONE:=zH hone
 clear hone
 subst hV eI eR eF
 obtain ⟨m,hmm⟩ : ∃ m,(watchC C ls fs).max = m:=⟨_,rfl⟩
 have hmm2 : C.max = m:=hmm
 obtain ⟨n,hn⟩ : ∃ n,t.rows.length = n:=⟨_,rfl⟩
 obtain ⟨lp,hlp⟩ : ∃ lp,t.loop = lp:=⟨_,rfl⟩
 obtain ⟨fn,hfn⟩ : ∃ k,fs.length = k:=⟨_,rfl⟩
 obtain ⟨ln,hln⟩ : ∃ k,ls.length = k:=⟨_,rfl⟩
 rw [hmm,hn,hlp,hfn] at HRUN
 rw [hmm,hfn] at HFW
 rw [hln] at HJ nl
 rw [hfn] at nf
 rw [hmm2,hn,hlp,hfn,hln]
 have HMM:=zH (And.intro hn (And.intro hfn hln))
 clear h ok rm ht hO hck hj hmm hmm2 hn hlp hfn hln hrt
 obtain ⟨W0,hW⟩ : ∃ W,W = (((w.alloc (.cells #[.int .i64 m,Vi,Vl,Vo,Vb,Vc,.slice (some ⟨gj,0,none⟩) 1 1,.slice AF fn cF,Va,Vs,Vt] 29)).alloc (.cells #[.slice AI nI cI,.slice AR n cR,.int .i64 lp] 33)).alloc (.cells #[.int .i64 0,.slice none 0 0,.slice none 0 0,.slice none 0 0,.slice none 0 0,.slice none 0 0,.slice none 0 0,.slice none 0 0,.slice none 0 0,.slice none 0 0,.slice none 0 0,.slice none 0 0,.slice none 0 0,.int .i64 0,.slice none 0 0,.slice none 0 0] 53)):=⟨_,rfl⟩
 have HSZ0 : Hid (W0.heap.size = w.heap.size + 1 + 1 + 1):=zH (by rw [hW]; simp)
 have HALL : Hid (∀ wz,Below W0.heap.size W0 wz → Blk wz w.heap.size 29 #[.int .i64 m,Vi,Vl,Vo,Vb,Vc,.slice (some ⟨gj,0,none⟩) 1 1,.slice AF fn cF,Va,Vs,Vt] ∧ Blk wz (w.heap.size + 1) 33 #[.slice AI nI cI,.slice AR n cR,.int .i64 lp] ∧ Blk wz (w.heap.size + 1 + 1) 53 zeroW ∧ Below w.heap.size w wz):=zH (fun wz hb => by
  rw [hW] at hb
  have h1 : Below w.heap.size w wz:=((((Below.refl w.heap.size w).alloc zN _).alloc (by simp) _).alloc (by simp; omega) _).trans (hb.mono (by simp; omega))
  have e1:=(((Blk.new w 29 #[.int .i64 m,Vi,Vl,Vo,Vb,Vc,.slice (some ⟨gj,0,none⟩) 1 1,.slice AF fn cF,Va,Vs,Vt]).alloc (.cells #[.slice AI nI cI,.slice AR n cR,.int .i64 lp] 33)).alloc (.cells #[.int .i64 0,.slice none 0 0,.slice none 0 0,.slice none 0 0,.slice none 0 0,.slice none 0 0,.slice none 0 0,.slice none 0 0,.slice none 0 0,.slice none 0 0,.slice none 0 0,.slice none 0 0,.slice none 0 0,.int .i64 0,.slice none 0 0,.slice none 0 0] 53)).below hb (by simp; omega)
  have e2:=((Blk.new (w.alloc (.cells #[.int .i64 m,Vi,Vl,Vo,Vb,Vc,.slice (some ⟨gj,0,none⟩) 1 1,.slice AF fn cF,Va,Vs,Vt] 29)) 33 #[.slice AI nI cI,.slice AR n cR,.int .i64 lp]).alloc (.cells #[.int .i64 0,.slice none 0 0,.slice none 0 0,.slice none 0 0,.slice none 0 0,.slice none 0 0,.slice none 0 0,.slice none 0 0,.slice none 0 0,.slice none 0 0,.slice none 0 0,.slice none 0 0,.slice none 0 0,.int .i64 0,.slice none 0 0,.slice none 0 0] 53)).below hb (by simp)
  have e3:=(Blk.new ((w.alloc (.cells #[.int .i64 m,Vi,Vl,Vo,Vb,Vc,.slice (some ⟨gj,0,none⟩) 1 1,.slice AF fn cF,Va,Vs,Vt] 29)).alloc (.cells #[.slice AI nI cI,.slice AR n cR,.int .i64 lp] 33)) 53 #[.int .i64 0,.slice none 0 0,.slice none 0 0,.slice none 0 0,.slice none 0 0,.slice none 0 0,.slice none 0 0,.slice none 0 0,.slice none 0 0,.slice none 0 0,.slice none 0 0,.slice none 0 0,.slice none 0 0,.int .i64 0,.slice none 0 0,.slice none 0 0]).below hb (by simp)
  rw [show (w.alloc (.cells #[.int .i64 m,Vi,Vl,Vo,Vb,Vc,.slice (some ⟨gj,0,none⟩) 1 1,.slice AF fn cF,Va,Vs,Vt] 29)).heap.size = w.heap.size + 1 by simp] at e2
  rw [show ((w.alloc (.cells #[.int .i64 m,Vi,Vl,Vo,Vb,Vc,.slice (some ⟨gj,0,none⟩) 1 1,.slice AF fn cF,Va,Vs,Vt] 29)).alloc (.cells #[.slice AI nI cI,.slice AR n cR,.int .i64 lp] 33)).heap.size = w.heap.size + 1 + 1 by simp] at e3
  exact ⟨e1,e2,e3,h1⟩)
 have HX : Hid (Below W0.heap.size W0 W0):=zH (Below.refl _ _)
 obtain ⟨c0,c1,c2,c3,c4,c5,c6,c7,c8,c9,c10⟩:=rbox_of (HALL.out _ HX.out).1
 obtain ⟨d0,d1,d2⟩:=trio_of (HALL.out _ HX.out).2.1
 have HWW:=zH hW
 clear hW
 obtain ⟨ra,rE,hwk⟩ : ∃ a e,walkR C O t = (a,e):=⟨_,_,rfl⟩
 have HWK:=zH hwk
 rw [hwk]
 simp only
 clear hwk
 go_enter Tryz.func15,Tryz.ntmps15
 go_upto_region 1 with (fail)
 go_step3
 rw [← HWW.out]
 by_cases hfit : fitsB C t = true
 · rw [if_pos hfit] at hre
   rw [hre] at HRUN
   have HF:=zH (fits_of hfit)
   have HWR : Hid ((if wrongF C t.init ≠ -1 then (wrongF C t.init,134) else if brokF C (valsT C O t) ≠ -1 then (brokF C (valsT C O t),130) else ((0 : Int),(0 : Int))) = (ra,rE)):=zH (by have h9:=HWK.out; unfold walkR at h9; rwa [if_neg (by simp [hfit])] at h9)
   have hfw:=fun (wx : World) (hb : Below w.heap.size w wx) => HFW.out wx hb HF.out.i
   obtain ⟨wr,hwre⟩ : ∃ x,wrongF C t.init = x:=⟨_,rfl⟩
   rw [show wrongF (watchC C ls fs) t.init = wrongF C t.init from rfl,hwre] at hfw
   rw [hwre] at HWR
   have HFW2:=zH hfw
   have hfr:=hfr hfit
   clear hfit hre hfw HFW
   go_upto_region 5 with (first
    | (go_at_call 36; refine (HRUN.out _ (HALL.out _ HX.out).2.2.2).mono ?_; rintro e w1 ⟨hb,v,rfl,_,hyes⟩; obtain ⟨gm,xs,rfl,hgm,hmb,hms⟩:=hyes rfl; have HMB:=zH hmb; have HMS:=zH hms; have HGM:=zH hgm; clear hyes hgm hmb hms; have HXN:=zH (bt HX.out zN hb); clear HX hb c0 c1 c2 c3 c4 c5 c6 c7 c8 c9 c10 d0 d1 d2; have HX:=HXN; clear HXN; obtain ⟨c0,c1,c2,c3,c4,c5,c6,c7,c8,c9,c10⟩:=rbox_of (HALL.out _ HX.out).1; obtain ⟨d0,d1,d2⟩:=trio_of (HALL.out _ HX.out).2.1)
    | (go_at_call 37; refine (HFW2.out _ (HALL.out _ HX.out).2.2.2).mono ?_; rintro e w2 ⟨rfl,hb⟩; have HMB2:=zH (HMB.out.below hb HMB.out.lt); have HMS2:=zH (HMS.out.below hb); clear HMB HMS; have HMB:=HMB2; have HMS:=HMS2; clear HMB2 HMS2; have HXN:=zH (bt HX.out zN hb); clear HX hb c0 c1 c2 c3 c4 c5 c6 c7 c8 c9 c10 d0 d1 d2; have HX:=HXN; clear HXN; obtain ⟨c0,c1,c2,c3,c4,c5,c6,c7,c8,c9,c10⟩:=rbox_of (HALL.out _ HX.out).1; obtain ⟨d0,d1,d2⟩:=trio_of (HALL.out _ HX.out).2.1))
   by_cases hw0 : wr = -1
   · subst hw0
     have hq : ((-1 : Int) != (-1 : Int)) = false:=by decide
     have HWR2 : Hid ((if brokF C (valsT C O t) ≠ -1 then (brokF C (valsT C O t),130) else ((0 : Int),(0 : Int))) = (ra,rE)):=zH (by have h9:=HWR.out; rwa [if_neg (by simp)] at h9)
     clear HWR
     obtain ⟨N,hN⟩ : ∃ N,ln + fn = N:=⟨_,rfl⟩
     have hNb : N ≤ 100000:=by omega
     have hmk:=make_bools N (by omega)
     have hlf : IntKind.i64.wrap (N : Int) = (N : Int):=by rw [IntKind.wrap_i64] <;> omega
     have hln0 : (ln : Int) + (fn : Int) = (N : Int):=by omega
     have cj:=((HALL.out _ HX.out).2.2.2.cell (p:=⟨gj,0,none⟩) HJ.out.lt).trans (HJ.out.cell 0)
     simp only [List.getElem?_toArray,List.getElem?_cons_zero] at cj
     go_upto_region 7 with (fail)
     have HX2:=HX
     refine wp_region_T (by kernel_rfl) (fun wz => wz.cell? ⟨w.heap.size,0,none⟩ = some (.int .i64 m) ∧ wz.cell? ⟨w.heap.size,1,none⟩ = some Vi ∧ wz.cell? ⟨w.heap.size,2,none⟩ = some Vl ∧ wz.cell? ⟨w.heap.size,3,none⟩ = some Vo ∧ wz.cell? ⟨w.heap.size,4,none⟩ = some Vb ∧ wz.cell? ⟨w.heap.size,5,none⟩ = some Vc ∧ wz.cell? ⟨w.heap.size,6,none⟩ = some (.slice (some ⟨gj,0,none⟩) 1 1) ∧ wz.cell? ⟨w.heap.size,7,none⟩ = some (.slice AF fn cF) ∧ wz.cell? ⟨w.heap.size,8,none⟩ = some Va ∧ wz.cell? ⟨w.heap.size,9,none⟩ = some Vs ∧ wz.cell? ⟨w.heap.size,10,none⟩ = some Vt ∧ wz.cell? ⟨w.heap.size + 1,0,none⟩ = some (.slice AI nI cI) ∧ wz.cell? ⟨w.heap.size + 1,1,none⟩ = some (.slice AR n cR) ∧ wz.cell? ⟨w.heap.size + 1,2,none⟩ = some (.int .i64 lp) ∧ wz.cell? ⟨gj,0,none⟩ = some (.slice lA ln lc)) 14 ?_
     have HH7 : Hid (∀ wz,Below w2.heap.size w2 wz → wz.cell? ⟨w.heap.size,0,none⟩ = some (.int .i64 m) ∧ wz.cell? ⟨w.heap.size,1,none⟩ = some Vi ∧ wz.cell? ⟨w.heap.size,2,none⟩ = some Vl ∧ wz.cell? ⟨w.heap.size,3,none⟩ = some Vo ∧ wz.cell? ⟨w.heap.size,4,none⟩ = some Vb ∧ wz.cell? ⟨w.heap.size,5,none⟩ = some Vc ∧ wz.cell? ⟨w.heap.size,6,none⟩ = some (.slice (some ⟨gj,0,none⟩) 1 1) ∧ wz.cell? ⟨w.heap.size,7,none⟩ = some (.slice AF fn cF) ∧ wz.cell? ⟨w.heap.size,8,none⟩ = some Va ∧ wz.cell? ⟨w.heap.size,9,none⟩ = some Vs ∧ wz.cell? ⟨w.heap.size,10,none⟩ = some Vt ∧ wz.cell? ⟨w.heap.size + 1,0,none⟩ = some (.slice AI nI cI) ∧ wz.cell? ⟨w.heap.size + 1,1,none⟩ = some (.slice AR n cR) ∧ wz.cell? ⟨w.heap.size + 1,2,none⟩ = some (.int .i64 lp) ∧ wz.cell? ⟨gj,0,none⟩ = some (.slice lA ln lc)):=zH (fun wz hz => by
      have h9:=HALL.out _ (bt HX.out zN hz)
      obtain ⟨a0,a1,a2,a3,a4,a5,a6,a7,a8,a9,a10⟩:=rbox_of h9.1
      obtain ⟨b0,b1,b2⟩:=trio_of h9.2.1
      have h8:=(h9.2.2.2.cell (p:=⟨gj,0,none⟩) HJ.out.lt).trans (HJ.out.cell 0)
      exact ⟨a0,a1,a2,a3,a4,a5,a6,a7,a8,a9,a10,b0,b1,b2,h8⟩)
     have HD0 : Hid (Below w2.heap.size w2 w2.drew):=zH (Below.refl _ _).drew
     have hHeld:=HH7.out _ HD0.out
     clear c0 c1 c2 c3 c4 c5 c6 c7 c8 c9 c10 d0 d1 d2 cj
     refine wpAnyT_take (i:=0) (oi:={ dst:=some 32,op:=Op.load 29 (Operand.tmp 3),type:=29,pos:="walk.go:47",after:=#[],guard:=none }) (v:=?v0r7q1) rfl (by kernel_rfl) (fun _ _ _ h => h) (by rfl) hHeld ?h0r7q1 ?_
     case h0r7q1 => (intro w' hSw; (try dsimp only at hSw); go_simp; try with_reducible rfl)
     (try simp only [Act.put,zA,zB,zC])
     refine wpAnyT_take (i:=1) (oi:={ dst:=some 33,op:=Op.load 33 (Operand.tmp 4),type:=33,pos:="walk.go:47",after:=#[],guard:=none }) (v:=?v1r7q1) rfl (by kernel_rfl) (fun _ _ _ h => h) (by rfl) hHeld ?h1r7q1 ?_
     case h1r7q1 => (intro w' hSw; (try dsimp only at hSw); go_simp; try with_reducible rfl)
     (try simp only [Act.put,zA,zB,zC])
     refine wpAnyT_take (i:=2) (oi:={ dst:=some 34,op:=Op.move (Operand.tmp 9),type:=51,pos:="walk.go:47",after:=#[],guard:=none }) (v:=?v2r7q1) rfl (by kernel_rfl) (fun _ _ _ h => h) (by rfl) hHeld ?h2r7q1 ?_
     case h2r7q1 => (intro w' hSw; (try dsimp only at hSw); go_simp; try with_reducible rfl)
     (try simp only [Act.put,zA,zB,zC])
     refine wpAnyT_take (i:=3) (oi:={ dst:=some 35,op:=Op.fieldAddr 29 (Operand.tmp 3) 6,type:=0,pos:="walk.go:47",after:=#[],guard:=none }) (v:=?v3r7q1) rfl (by kernel_rfl) (fun _ _ _ h => h) (by rfl) hHeld ?h3r7q1 ?_
     case h3r7q1 => (intro w' hSw; (try dsimp only at hSw); go_simp; try with_reducible rfl)
     (try simp only [Act.put,zA,zB,zC])
     refine wpAnyT_take (i:=4) (oi:={ dst:=some 36,op:=Op.load 24 (Operand.tmp 35),type:=24,pos:="walk.go:47",after:=#[{ on:=3,ground:=Ground.data }],guard:=none }) (v:=?v4r7q1) rfl (by kernel_rfl) (fun _ _ _ h => h) (by rfl) hHeld ?h4r7q1 ?_
     case h4r7q1 => (intro w' hSw; (try dsimp only at hSw); go_simp; try with_reducible rfl)
     (try simp only [Act.put,zA,zB,zC])
     refine wpAnyT_take (i:=5) (oi:={ dst:=some 37,op:=Op.indexAddr 24 (Operand.tmp 36) (Operand.const (Value.int IntKind.i64 0)),type:=0,pos:="walk.go:47",after:=#[{ on:=4,ground:=Ground.data }],guard:=none }) (v:=?v5r7q1) rfl (by kernel_rfl) (fun _ _ _ h => h) (by rfl) hHeld ?h5r7q1 ?_
     case h5r7q1 => (intro w' hSw; (try dsimp only at hSw); go_simp; try with_reducible rfl)
     (try simp only [Act.put,zA,zB,zC])
     refine wpAnyT_take (i:=6) (oi:={ dst:=some 38,op:=Op.load 22 (Operand.tmp 37),type:=22,pos:="walk.go:47",after:=#[{ on:=5,ground:=Ground.data }],guard:=none }) (v:=?v6r7q1) rfl (by kernel_rfl) (fun _ _ _ h => h) (by rfl) hHeld ?h6r7q1 ?_
     case h6r7q1 => (intro w' hSw; (try dsimp only at hSw); go_simp; try with_reducible rfl)
     (try simp only [Act.put,zA,zB,zC])
     refine wpAnyT_take (i:=7) (oi:={ dst:=some 39,op:=Op.call { callee:=Callee.builtin Builtin.len,args:=#[Operand.tmp 38],argTypes:=#[22] },type:=3,pos:="walk.go:47",after:=#[{ on:=6,ground:=Ground.data }],guard:=none }) (v:=?v7r7q1) rfl (by kernel_rfl) (fun _ _ _ h => h) (by rfl) hHeld ?h7r7q1 ?_
     case h7r7q1 => (intro w' hSw; (try dsimp only at hSw); go_simp; try with_reducible rfl)
     (try simp only [Act.put,zA,zB,zC])
     refine wpAnyT_take (i:=8) (oi:={ dst:=some 40,op:=Op.fieldAddr 29 (Operand.tmp 3) 7,type:=0,pos:="walk.go:47",after:=#[],guard:=none }) (v:=?v8r7q1) rfl (by kernel_rfl) (fun _ _ _ h => h) (by rfl) hHeld ?h8r7q1 ?_
     case h8r7q1 => (intro w' hSw; (try dsimp only at hSw); go_simp; try with_reducible rfl)
     (try simp only [Act.put,zA,zB,zC])
     refine wpAnyT_take (i:=9) (oi:={ dst:=some 41,op:=Op.load 22 (Operand.tmp 40),type:=22,pos:="walk.go:47",after:=#[{ on:=8,ground:=Ground.data }],guard:=none }) (v:=?v9r7q1) rfl (by kernel_rfl) (fun _ _ _ h => h) (by rfl) hHeld ?h9r7q1 ?_
     case h9r7q1 => (intro w' hSw; (try dsimp only at hSw); go_simp; try with_reducible rfl)
     (try simp only [Act.put,zA,zB,zC])
     refine wpAnyT_take (i:=10) (oi:={ dst:=some 42,op:=Op.call { callee:=Callee.builtin Builtin.len,args:=#[Operand.tmp 41],argTypes:=#[22] },type:=3,pos:="walk.go:47",after:=#[{ on:=9,ground:=Ground.data }],guard:=none }) (v:=?v10r7q1) rfl (by kernel_rfl) (fun _ _ _ h => h) (by rfl) hHeld ?h10r7q1 ?_
     case h10r7q1 => (intro w' hSw; (try dsimp only at hSw); go_simp; try with_reducible rfl)
     (try simp only [Act.put,zA,zB,zC])
     refine wpAnyT_take (i:=11) (oi:={ dst:=some 43,op:=Op.binOp BinOp.add 3 (Operand.tmp 39) (Operand.tmp 42) 3,type:=3,pos:="walk.go:47",after:=#[{ on:=7,ground:=Ground.data },{ on:=10,ground:=Ground.data }],guard:=none }) (v:=?v11r7q1) rfl (by kernel_rfl) (fun _ _ _ h => h) (by rfl) hHeld ?h11r7q1 ?_
     case h11r7q1 => (intro w' hSw; (try dsimp only at hSw); go_simp; try with_reducible rfl)
     (try simp only [Act.put,zA,zB,zC])
     clear hHeld
     refine wpAnyT_one (i:=12) rfl (by kernel_rfl) (fun K hK => ?_)
     go_simp
     refine hK.out _ _ (fun _ => HH7.out _ (HD0.out.alloc zN _)) ?_
     clear hK K
     (try simp only [Act.put,zA,zB,zC])
     have hHeld:=HH7.out _ (HD0.out.alloc zN (.cells (madeCells #[Value.bool false] N) 4))
     refine wpAnyT_take (i:=13) (oi:={ dst:=some 45,op:=Op.build 53 #[(0,Operand.tmp 32),(1,Operand.tmp 33),(2,Operand.tmp 34),(3,Operand.tmp 44)],type:=53,pos:="walk.go:47",after:=#[{ on:=0,ground:=Ground.data },{ on:=1,ground:=Ground.data },{ on:=2,ground:=Ground.data },{ on:=12,ground:=Ground.data }],guard:=none }) (v:=?v13r7q2) rfl (by kernel_rfl) (fun _ _ _ h => h) (by rfl) hHeld ?h13r7q2 ?_
     case h13r7q2 => (intro w' hSw; (try dsimp only at hSw); go_simp; try with_reducible rfl)
     (try simp only [Act.put,zA,zB,zC])
     clear hHeld
     refine wpAnyT_one (i:=14) rfl (by kernel_rfl) (fun K hK => ?_)
     rw [if_pos (by rfl)]
     have hwc : (#[.int .i64 m,Vi,Vl,Vo,Vb,Vc,.slice (some ⟨gj,0,none⟩) 1 1,.slice AF fn cF,Va,Vs,Vt,.slice AI nI cI,.slice AR n cR,.int .i64 lp,.slice (some ⟨gm,0,none⟩) n n,.slice (some ⟨w2.heap.size,0,none⟩) N N] : Array Value).all (·.oneCell') = true:=by
      obtain ⟨o1,o2,o3,o4,o5,o6,o7,o8⟩:=HONE.out
      have s1 : ∀ a b c,(Value.slice a b c).oneCell' = true:=fun _ _ _ => rfl
      have i1 : ∀ k z,(Value.int k z).oneCell' = true:=fun _ _ => rfl
      simp [s1,i1,o1,o2,o3,o4,o5,o6,o7,o8]
     have hzb : Blk (w2.drew.alloc (.cells (madeCells #[Value.bool false] N) 4)) (w.heap.size + 1 + 1) 53 zeroW:=((HALL.out _ HX.out).2.2.1).drew.alloc _
     refine wp_store_row 53 (.tmp 6) (.tmp 45) rfl (w.heap.size + 1 + 1) #[.int .i64 m,Vi,Vl,Vo,Vb,Vc,.slice (some ⟨gj,0,none⟩) 1 1,.slice AF fn cF,Va,Vs,Vt,.slice AI nI cI,.slice AR n cR,.int .i64 lp,.slice (some ⟨gm,0,none⟩) n n,.slice (some ⟨w2.heap.size,0,none⟩) N N] rfl rfl 53 _ hzb (by kernel_rfl) rfl hwc (hK.out _ _ (fun h9 => absurd h9 (by decide)) ?_)
     refine wpAnyT_done (by kernel_rfl) ?_
     clear hK K
     have hsz2 : w.heap.size + 1 + 1 < w2.heap.size:=(HALL.out _ HX.out).2.2.1.lt
     obtain ⟨W7,hW7⟩ : ∃ W,W = (w2.drew.alloc (.cells (madeCells #[Value.bool false] N) 4)).setRow (w.heap.size + 1 + 1) #[.int .i64 m,Vi,Vl,Vo,Vb,Vc,.slice (some ⟨gj,0,none⟩) 1 1,.slice AF fn cF,Va,Vs,Vt,.slice AI nI cI,.slice AR n cR,.int .i64 lp,.slice (some ⟨gm,0,none⟩) n n,.slice (some ⟨w2.heap.size,0,none⟩) N N]:=⟨_,rfl⟩
     have q1 : Blk W7 (w.heap.size + 1 + 1) 53 #[.int .i64 m,Vi,Vl,Vo,Vb,Vc,.slice (some ⟨gj,0,none⟩) 1 1,.slice AF fn cF,Va,Vs,Vt,.slice AI nI cI,.slice AR n cR,.int .i64 lp,.slice (some ⟨gm,0,none⟩) n n,.slice (some ⟨w2.heap.size,0,none⟩) N N]:=by rw [hW7]; exact setRow_heap _ _ _ _ _ _ hzb
     have q2 : Tab W7 w2.heap.size (List.replicate N false):=by
      unfold Tab
      rw [← made_bools,hW7]
      exact (setRow_other _ _ _ _ (by omega)).trans (Blk.new w2.drew 4 (madeCells #[Value.bool false] N))
     have q3 : ∀ k,k < w2.heap.size → k ≠ w.heap.size + 1 + 1 → W7.heap[k]? = w2.heap[k]?:=fun k h1 h2 => by
      rw [hW7]
      exact (setRow_other _ _ _ _ h2).trans (Below.heap_alloc w2.drew _ k h1)
     have q4 : W7.heap.size = w2.heap.size + 1:=by rw [hW7,size_setRow]; simp
     have q5 : W7.os = w.os ∧ W7.tape = w.tape ∧ W7.output = w.output:=by
      have h9:=(HALL.out _ HX.out).2.2.2
      have h8:=h9.drew.alloc h9.size (.cells (madeCells #[Value.bool false] N) 4)
      rw [hW7]
      exact ⟨h8.os,h8.tape,h8.output⟩
     obtain ⟨wt,hwt⟩ : ∃ wt,wt = truncR W7 w2.heap.size:=⟨_,rfl⟩
     have hts : wt.heap.size = w2.heap.size:=by rw [hwt]; exact truncR_size (by omega)
     have hget : ∀ k,k < w2.heap.size → wt.heap[k]? = W7.heap[k]?:=fun k hk => by rw [hwt]; exact truncR_get hk (by omega)
     have t0 : Below wt.heap.size wt W7:=by rw [hts,hwt]; exact truncR_below (by omega)
     have t1 : Blk wt (w.heap.size + 1 + 1) 53 #[.int .i64 m,Vi,Vl,Vo,Vb,Vc,.slice (some ⟨gj,0,none⟩) 1 1,.slice AF fn cF,Va,Vs,Vt,.slice AI nI cI,.slice AR n cR,.int .i64 lp,.slice (some ⟨gm,0,none⟩) n n,.slice (some ⟨w2.heap.size,0,none⟩) N N]:=(hget _ hsz2).trans q1
     have hgm9:=HGM.out
     have hgml:=HMB.out.lt
     have hWs : W0.heap.size = w.heap.size + 1 + 1 + 1:=HSZ0.out
     have t2 : MomB wt gm n xs:=HMB.out.turn ((hget _ hgml).trans (q3 _ hgml (by omega)))
     have t3:=HMS.out.turn (w':=wt) (fun g h1 h2 => (hget _ h2).trans (q3 _ h2 (by omega)))
     have hjl:=HJ.out.lt
     have t4 : Blk wt gj 22 #[.slice lA ln lc]:=(hget _ (by omega)).trans ((q3 _ (by omega) (by omega)).trans (((HALL.out _ HX.out).2.2.2.block _ hjl).trans HJ.out))
     have t5 : Below w.heap.size w wt:=⟨by rw [hwt]; exact q5.1,by rw [hwt]; exact q5.2.1,by rw [hwt]; exact q5.2.2,by omega,fun k hk => (hget _ (by omega)).trans ((q3 _ (by omega) (by omega)).trans ((HALL.out _ HX.out).2.2.2.block _ hk))⟩
     have HGM2:=zH hgm9
     have HT0:=zH (And.intro t0 (And.intro q2 (And.intro hts hwc)))
     have HT1:=zH (And.intro t1 (And.intro t2 (And.intro t3 (And.intro t4 t5))))
     have HW7 : Hid (W7 = (w2.alloc (.cells (madeCells #[Value.bool false] N) 4)).drew.setRow (w.heap.size + 1 + 1) #[.int .i64 m,Vi,Vl,Vo,Vb,Vc,.slice (some ⟨gj,0,none⟩) 1 1,.slice AF fn cF,Va,Vs,Vt,.slice AI nI cI,.slice AR n cR,.int .i64 lp,.slice (some ⟨gm,0,none⟩) n n,.slice (some ⟨w2.heap.size,0,none⟩) N N]):=zH hW7
     clear hzb hwc hsz2 hW7 q1 q2 q3 q4 q5 hwt hts hget t0 t1 t2 t3 t4 t5 hgm9 hgml hWs hjl HH7 HD0 HMB HMS HGM HALL HX HX2 HFW2 HRUN
     obtain ⟨g,hgg⟩ : ∃ g,w2.heap.size = g:=⟨_,rfl⟩
     rw [← HW7.out]
     rw [hgg] at HT0 HT1 ⊢
     have hWB:=HT1.out.2.2.2.2
     have HWB:=zH hWB
     clear HW7 hgg hWB
     obtain ⟨Ts,hTs⟩ : ∃ Ts,valsT C O t = Ts:=⟨_,rfl⟩
     rw [hTs] at HWR2
     have hTl : Ts.length = n:=by rw [← hTs]; exact (valsG_len C O _ _).trans HMM.out.1
     have HTS:=zH (And.intro hTs hTl)
     have HMW:=zH (fun (k : Nat) => momsG_watch C O ls fs t.rows t.init k)
     have HHIT:=zH (fun (k : Nat) (T : List Bool) (h1 : ∀ y ∈ Ts.take k,(!holdsF C y) = false) (h2 : Ts[k]? = some T) (h3 : (!holdsF C T) = true) => (firstB_hit (p:=fun T => !holdsF C T) (k:=0) h1 h2 h3))
     have HEND:=zH (fun (h1 : ∀ y ∈ Ts,(!holdsF C y) = false) => (firstB_none (p:=fun T => !holdsF C T) (k:=0) h1))
     have HSNO:=zH (fun (k : Nat) (T : List Bool) (h : Ts[k]? = some T) (hf : fr.toNat ≤ k) => cameR_snoc C ls fs Ts k T h fr.toNat hf)
     have HSKI:=zH (fun (k : Nat) (hf : k < fr.toNat) => cameR_skip (ls ++ fs) Ts k fr.toNat hf)
     have h00 : cameS (ls ++ fs) ((Ts.take 0).drop fr.toNat) = List.replicate N false:=by
      rw [List.take_zero,List.drop_nil,cameS_nil,List.length_append,HMM.out.2.1,HMM.out.2.2,hN]
     have HH0:=zH h00
     have HNN:=zH hN
     clear hTs hTl h00 hmk hlf hln0 hN
     have hgl : g < W7.heap.size:=HT0.out.2.1.lt
     have hn512 : n ≤ 512:=by have h9:=HF.out.n2; rwa [HMM.out.1] at h9
     go_wp2
     go_step3
     go_wp2
     go_loopg [11,48] n (fun z bv iv wz => ∃ k : Nat,k ≤ n ∧ z = n - k ∧ bv = .int .i64 (-1) ∧ iv = .int .i64 k ∧ (∀ y ∈ Ts.take k,(!holdsF C y) = false) ∧ Below wt.heap.size wt wz ∧ Tab wz g (cameS (ls ++ fs) ((Ts.take k).drop fr.toNat)))
     case atStart => exact ⟨0,Nat.zero_le _,rfl,rfl,rfl,by simp,HT0.out.1,by rw [HH0.out]; exact HT0.out.2.1⟩
     case round =>
      obtain ⟨k,hk,hgk,rfl,rfl,hall,hbw,htb⟩:=hrel
      subst hgk
      have HA:=zH hall
      have HB:=zH hbw
      have HTB:=zH htb
      clear hall hbw htb
      by_cases hlt : k < n
      · obtain ⟨T,hT⟩ : ∃ T,Ts[k]? = some T:=⟨_,List.getElem?_eq_getElem (by rw [HTS.out.2]; exact hlt)⟩
        obtain ⟨x,hx⟩ : ∃ x,xs[k]? = some x:=⟨_,List.getElem?_eq_getElem (by rw [HT1.out.2.2.1.len,momsG_len,HMM.out.1]; exact hlt)⟩
        have hmw0:=HMW.out k
        rw [show valsG C O t.init t.rows = Ts from HTS.out.1,hT] at hmw0
        obtain ⟨mm,hmm⟩ : ∃ mm : Mom,mm = ⟨runS C O t.init (t.rows.take k),holdsF C T,[],(placesF ls T).map (fun p => ((0 : Int),p)) ++ (placesF fs T).map (fun p => ((-1 : Int),p))⟩:=⟨_,rfl⟩
        have hmw : (momsG (watchC C ls fs) O t.init t.rows)[k]? = some mm:=by rw [hmm]; exact hmw0
        have hmr:=HT1.out.2.2.1.at_ k x _ hx hmw
        have hmh : mm.holds = holdsF C T:=by rw [hmm]
        have HMF : Hid (mm.fair = (placesF ls T).map (fun p => ((0 : Int),p)) ++ (placesF fs T).map (fun p => ((-1 : Int),p))):=zH (by rw [hmm])
        have hc4:=HT1.out.2.1.cells hx
        have HMR:=zH hmr
        obtain ⟨sA,sc,hse⟩:=own_slice1 hmr.s
        obtain ⟨bA,bc,hbe⟩:=own_slice1 hmr.b
        obtain ⟨pA,pc,hpe⟩:=own_slice1 hmr.f
        have hxh:=hmr.h.trans hmh
        obtain ⟨xs0,xh,xb,xf⟩:=x
        simp only at hse hbe hpe hxh hc4
        subst hse hbe hpe
        obtain ⟨hh,hhe⟩ : ∃ b,holdsF C T = b:=⟨_,rfl⟩
        rw [hhe] at hxh
        subst hxh
        have HHE:=zH hhe
        have HT:=zH hT
        have hgml:=HT1.out.2.1.lt
        have e0:=(HB.out.cell (p:=⟨gm,k * 4,none⟩) hgml).trans hc4.1
        have e1:=(HB.out.cell (p:=⟨gm,k * 4 + 1,none⟩) hgml).trans hc4.2.1
        have e2:=(HB.out.cell (p:=⟨gm,k * 4 + 2,none⟩) hgml).trans hc4.2.2.1
        have e3:=(HB.out.cell (p:=⟨gm,k * 4 + 3,none⟩) hgml).trans hc4.2.2.2
        have hk0 : (0 : Int) ≤ (k : Int):=by omega
        have hk1 : (k : Int) < (n : Int):=by omega
        clear hT hx hmw0 hmw hmm hmr hmh hhe hc4 hgml
        cases xh with
        | false =>
          have HRR : Hid ((k : Int) = ra ∧ 130 = rE):=zH (by
           have h8 : brokF C Ts = (k : Int):=(HHIT.out k T HA.out HT.out (by rw [HHE.out]; rfl)).trans (by simp)
           have h9:=HWR2.out
           rw [h8,if_pos (by omega)] at h9
           injection h9 with h6 h7
           exact ⟨h6,h7⟩)
          have HBX:=zH ((HT1.out.1.below HB.out HT1.out.1.lt).alloc (.cells #[.slice sA mm.st.length sc,.bool false,.slice bA mm.bads.length bc,.slice pA mm.fair.length pc] 62))
          have HBO:=zH (((HWB.out.trans (HB.out.mono HWB.out.size)).alloc (Nat.le_trans HWB.out.size HB.out.size) (.cells #[.slice sA mm.st.length sc,.bool false,.slice bA mm.bads.length bc,.slice pA mm.fair.length pc] 62)))
          have HST:=zH (storeW _ _ _ zeroW HBX.out (B:=w.heap.size) (by omega))
          have hkq : ((k : Int) != (-1 : Int)) = true:=by first | (simp; done) | (simp; omega)
          go_wp2_with (refine wpList_store_row rfl 53 (.tmp 6) (.tmp 68) rfl (w.heap.size + 1 + 1) zeroW rfl rfl 53 _ HBX.out (by kernel_rfl) rfl (by simp [Value.oneCell']) ?_)
          rw [Exit.noGoto_ret]; refine bodyPost_ret (results_cell_two (fn:=Tryz.f15) (p:=6) (q:=7) (r:=8) rfl _ _ (w.heap.size + 1 + 1) 53 zeroW (0,0) _ rfl HST.out.2.1 Tryz.underlying53 rfl (by kernel_rfl) (.int .i64 k) (.int .i64 130) rfl rfl) rfl ?_
          exact ⟨HBO.out.trans HST.out.1,zeroW,retW HRR.out.1 HRR.out.2,fun _ => rfl,fun h9 => absurd (HRR.out.2.trans h9) (by decide)⟩
        | true =>
          have HAN : Hid (∀ y ∈ Ts.take (k + 1),(!holdsF C y) = false):=zH (fun y hy => by
           rw [List.take_add_one,HT.out] at hy
           rcases List.mem_append.1 hy with hy | hy
           · exact HA.out y hy
           · simp at hy; subst hy; rw [HHE.out]; rfl)
          have HBA:=zH (HB.out.alloc HB.out.size (.cells #[.slice sA mm.st.length sc,.bool true,.slice bA mm.bads.length bc,.slice pA mm.fair.length pc] 62))
          have HTA:=zH (Blk.alloc HTB.out (.cells #[.slice sA mm.st.length sc,.bool true,.slice bA mm.bads.length bc,.slice pA mm.fair.length pc] 62))
          have HBX:=zH (HT1.out.1.below HBA.out HT1.out.1.lt)
          by_cases hf : fr ≤ (k : Int)
          · have hfk : fr.toNat ≤ k:=by omega
            have HSE:=zH (see_any wt _ ⟨Vi,Vl,Vo,Vb,Vc,.slice (some ⟨gj,0,none⟩) 1 1,.slice AF fn cF,Va,Vs,Vt⟩ m ⟨.slice AI nI cI,.slice AR n cR⟩ lp (.slice (some ⟨gm,0,none⟩) n n) _ g N lA ln lc gj ⟨.slice sA mm.st.length sc,true,.slice bA mm.bads.length bc,.slice pA mm.fair.length pc⟩ mm.fair rfl HT1.out.2.2.2.1 HBA.out HTA.out (by rw [HT0.out.2.2.1]; exact Nat.le_refl _)
             (by rw [cameS_len,List.length_append,HMM.out.2.1,HMM.out.2.2]; exact HNN.out) hNb (own_rowe lenQ HMR.out.f) (fun s hs => by
               rw [HMF.out] at hs
               have h9:=HNN.out
               rcases seeF_pos HMM.out.2.2 HMM.out.2.1 T s hs with ⟨a,b,c⟩ | ⟨a,b,c⟩
               · exact .inl ⟨a,b,by omega⟩
               · exact .inr ⟨a,b,by omega⟩))
            have HNX:=zH (HSNO.out k T HT.out hfk)
            go_wp2_with (first
             | (refine wpList_load_row rfl 53 (.tmp 6) rfl (w.heap.size + 1 + 1) rfl 53 #[.int .i64 m,Vi,Vl,Vo,Vb,Vc,.slice (some ⟨gj,0,none⟩) 1 1,.slice AF fn cF,Va,Vs,Vt,.slice AI nI cI,.slice AR n cR,.int .i64 lp,.slice (some ⟨gm,0,none⟩) n n,.slice (some ⟨g,0,none⟩) N N] (0,0) _ HBX.out Tryz.underlying53 rfl (by kernel_rfl) ?_)
             | (go_at_call 38; refine HSE.out.mono ?_; rintro e w5 ⟨rfl,hb5,ht5⟩; have HB5:=zH hb5; have HT5:=zH ht5; clear hb5 ht5))
            go_roundg (n - (k + 1))
            case measure => omega
            case rel =>
             refine ⟨k + 1,by omega,rfl,rfl,by go_num,HAN.out,HB5.out,?_⟩
             rw [← HNX.out,← HMF.out,HMM.out.2.2]
             exact HT5.out
          · have hfk : k < fr.toNat:=by omega
            have HNX:=zH (HSKI.out k hfk)
            go_wp2
            go_roundg (n - (k + 1))
            case measure => omega
            case rel =>
             refine ⟨k + 1,by omega,rfl,rfl,by go_num,HAN.out,HBA.out,?_⟩
             rw [HNX.out]
             exact HTA.out
      · have hke : n = k:=by omega
        subst hke
        have HTE : Hid (Ts.take n = Ts):=zH (List.take_of_length_le (by rw [HTS.out.2]; exact Nat.le_refl _))
        have HRR : Hid (0 = ra ∧ 0 = rE):=zH (by
         have h8 : brokF C Ts = -1:=HEND.out (by have h9:=HA.out; rwa [HTE.out] at h9)
         have h9:=HWR2.out
         rw [h8,if_neg (by simp)] at h9
         injection h9 with h6 h7
         exact ⟨h6,h7⟩)
        have HBX:=zH (HT1.out.1.below HB.out HT1.out.1.lt)
        have HST:=zH (storeW _ _ _ #[.int .i64 m,Vi,Vl,Vo,Vb,Vc,.slice (some ⟨gj,0,none⟩) 1 1,.slice AF fn cF,Va,Vs,Vt,.slice AI nI cI,.slice AR n cR,.int .i64 lp,.slice (some ⟨gm,0,none⟩) n n,.slice (some ⟨g,0,none⟩) N N] HBX.out (B:=w.heap.size) (by omega))
        clear hlt hk
        go_wp2_with (first
         | (refine wpList_load_row rfl 53 (.tmp 6) rfl (w.heap.size + 1 + 1) rfl 53 #[.int .i64 m,Vi,Vl,Vo,Vb,Vc,.slice (some ⟨gj,0,none⟩) 1 1,.slice AF fn cF,Va,Vs,Vt,.slice AI nI cI,.slice AR n cR,.int .i64 lp,.slice (some ⟨gm,0,none⟩) n n,.slice (some ⟨g,0,none⟩) N N] (0,0) _ HBX.out Tryz.underlying53 rfl (by kernel_rfl) ?_)
         | (refine wpList_store_row rfl 53 (.tmp 6) (.tmp 70) rfl (w.heap.size + 1 + 1) #[.int .i64 m,Vi,Vl,Vo,Vb,Vc,.slice (some ⟨gj,0,none⟩) 1 1,.slice AF fn cF,Va,Vs,Vt,.slice AI nI cI,.slice AR n cR,.int .i64 lp,.slice (some ⟨gm,0,none⟩) n n,.slice (some ⟨g,0,none⟩) N N] rfl rfl 53 _ HBX.out (by kernel_rfl) rfl HT0.out.2.2.2 ?_))
        rw [Exit.noGoto_ret]; refine bodyPost_ret (results_cell_two (fn:=Tryz.f15) (p:=6) (q:=7) (r:=8) rfl _ _ (w.heap.size + 1 + 1) 53 #[.int .i64 m,Vi,Vl,Vo,Vb,Vc,.slice (some ⟨gj,0,none⟩) 1 1,.slice AF fn cF,Va,Vs,Vt,.slice AI nI cI,.slice AR n cR,.int .i64 lp,.slice (some ⟨gm,0,none⟩) n n,.slice (some ⟨g,0,none⟩) N N] (0,0) _ rfl HST.out.2.1 Tryz.underlying53 rfl (by kernel_rfl) (.int .i64 0) (.int .i64 0) rfl rfl) rfl ?_
        have hbs : ∀ k,k ≠ w.heap.size + 1 + 1 → (wr.setRow (w.heap.size + 1 + 1) #[.int .i64 m,Vi,Vl,Vo,Vb,Vc,.slice (some ⟨gj,0,none⟩) 1 1,.slice AF fn cF,Va,Vs,Vt,.slice AI nI cI,.slice AR n cR,.int .i64 lp,.slice (some ⟨gm,0,none⟩) n n,.slice (some ⟨g,0,none⟩) N N]).heap[k]? = wr.heap[k]?:=fun k hk => setRow_other _ _ _ _ hk
        have hsz:=HSZ0.out
        have hgm:=HGM2.out
        have hts:=HT0.out.2.2.1
        have hwt:=HT1.out.1.lt
        refine ⟨(HWB.out.trans (HB.out.mono HWB.out.size)).trans HST.out.1,_,retW HRR.out.1 HRR.out.2,fun h9 => absurd HRR.out.2.symm h9,fun _ => ⟨gm,xs,g,?_,by omega,(HT1.out.2.1.below HB.out HT1.out.2.1.lt).turn (hbs _ (by omega)),?_,by omega,?_⟩⟩
        · rw [HNN.out]
        · have h9:=(HT1.out.2.2.1.below HB.out).turn (w':=wr.setRow (w.heap.size + 1 + 1) #[.int .i64 m,Vi,Vl,Vo,Vb,Vc,.slice (some ⟨gj,0,none⟩) 1 1,.slice AF fn cF,Va,Vs,Vt,.slice AI nI cI,.slice AR n cR,.int .i64 lp,.slice (some ⟨gm,0,none⟩) n n,.slice (some ⟨g,0,none⟩) N N]) (fun g h1 h2 => hbs g (by omega))
          exact ⟨h9.len,fun i x m hx hm => by
           have h8:=h9.at_ i x m hx hm
           exact ⟨own_le h8.s (by omega),h8.h,own_le h8.b (by omega),own_le h8.f (by omega)⟩,h9.apart⟩
        · rw [HTS.out.1]
          have h9:=HTB.out
          rw [HTE.out] at h9
          exact (hbs g (by omega)).trans h9
   · have hq : (wr != (-1 : Int)) = true:=by simpa using hw0
     have HRR : Hid (wr = ra ∧ 134 = rE):=zH (by have h9:=HWR.out; rw [if_pos hw0] at h9; injection h9 with h8 h9; exact ⟨h8,h9⟩)
     have HST:=zH (storeW _ _ _ zeroW (HALL.out _ HX.out).2.2.1 (B:=w.heap.size) (by omega))
     clear hw0
     go_wp2_with (refine wpList_store_row rfl 53 (.tmp 6) (.tmp 30) rfl (w.heap.size + 1 + 1) zeroW rfl rfl 53 _ (HALL.out _ HX.out).2.2.1 (by kernel_rfl) rfl (by simp [Value.oneCell']) ?_)
     rw [Exit.noGoto_ret]; refine bodyPost_ret (results_cell_two (fn:=Tryz.f15) (p:=6) (q:=7) (r:=8) rfl _ _ (w.heap.size + 1 + 1) 53 zeroW (0,0) _ rfl HST.out.2.1 Tryz.underlying53 rfl (by kernel_rfl) (.int .i64 wr) (.int .i64 134) rfl rfl) rfl ?_
     exact ⟨(HALL.out _ HX.out).2.2.2.trans HST.out.1,zeroW,retW HRR.out.1 HRR.out.2,fun _ => rfl,fun h9 => absurd (HRR.out.2.trans h9) (by decide)⟩
 · rw [if_neg hfit] at hre
   rw [hre] at HRUN
   have HWR : Hid (0 = ra ∧ 4 = rE):=zH (by have h9:=HWK.out; unfold walkR at h9; rw [if_pos (by simpa using hfit)] at h9; injection h9 with h8 h9; exact ⟨h8,h9⟩)
   clear hfit hre
   go_wp2_with (first
    | (go_at_call 36; refine (HRUN.out _ (HALL.out _ HX.out).2.2.2).mono ?_; rintro e w1 ⟨hb,v,rfl,hno,_⟩; obtain rfl:=hno (by decide); clear hno; have HXN:=zH (bt HX.out zN hb); clear HX hb c0 c1 c2 c3 c4 c5 c6 c7 c8 c9 c10 d0 d1 d2; have HX:=HXN; clear HXN; obtain ⟨c0,c1,c2,c3,c4,c5,c6,c7,c8,c9,c10⟩:=rbox_of (HALL.out _ HX.out).1; obtain ⟨d0,d1,d2⟩:=trio_of (HALL.out _ HX.out).2.1; have HST:=zH (storeW _ _ _ zeroW (HALL.out _ HX.out).2.2.1 (B:=w.heap.size) (by omega)))
    | (refine wpList_store_row rfl 53 (.tmp 6) (.tmp 22) rfl (w.heap.size + 1 + 1) zeroW rfl rfl 53 _ (HALL.out _ HX.out).2.2.1 (by kernel_rfl) rfl (by simp [Value.oneCell']) ?_))
   rw [Exit.noGoto_ret]; refine bodyPost_ret (results_cell_two (fn:=Tryz.f15) (p:=6) (q:=7) (r:=8) rfl _ _ (w.heap.size + 1 + 1) 53 zeroW (0,0) _ rfl HST.out.2.1 Tryz.underlying53 rfl (by kernel_rfl) (.int .i64 0) (.int .i64 4) rfl rfl) rfl ?_
   exact ⟨(HALL.out _ HX.out).2.2.2.trans HST.out.1,zeroW,retW HWR.out.1 HWR.out.2,fun _ => rfl,fun h9 => absurd (HWR.out.2.trans h9) (by decide)⟩
end Go.Proofs.YtjbglgmbnjdhcaaGreat

import Derived.Test.YtjbglgmbnjdhcaaGreatRplQ
import Derived.Test.YtjbglgmbnjdhcaaGreatRunC
import Derived.Test.YtjbglgmbnjdhcaaGreatRfO
namespace Go.Proofs.YtjbglgmbnjdhcaaGreat
open Go.RowKit

theorem results_tmp4 {fn : Func} {t u v x : Tmp} (h : fn.results = #[.tmp t,.tmp u,.tmp v,.tmp x]) (tmps : Array Value) (P : Program) (w : World) :
 (results fn tmps).run P w = .ok (.tuple #[tmps.getD t undef,tmps.getD u undef,tmps.getD v undef,tmps.getD x undef]) w:=by
 simp [results,h]
theorem retB {a b : Bool} (h : a = b) : Ending.returned (.bool a) = .returned (.bool b) := by rw [h]
theorem retU {v u : Value} {a b c d : Int} (h1 : a = c) (h2 : b = d) : Ending.returned (.tuple #[v,u,.int .i64 a,.int .i64 b]) = .returned (.tuple #[v,u,.int .i64 c,.int .i64 d]) := by rw [h1,h2]
theorem retS {v : Value} {a b : Int} (h : a = b) : Ending.returned (.tuple #[v,.int .i64 a]) = .returned (.tuple #[v,.int .i64 b]) := by rw [h]
theorem momsG_get (C : Circ) (O : List Int) : ∀ (rows : List (List Bool)) (st : List Bool) (k : Nat),(momsG C O st rows)[k]? = ((valsG C O st rows)[k]?).map fun T => momOf C (runS C O st (rows.take k)) T
 | [],_,k => by simp [momsG,valsG]
 | r :: rest,st,0 => rfl
 | r :: rest,st,k + 1 => by
   show (momsG C O _ rest)[k]? = ((valsG C O _ rest)[k]?).map _
   exact momsG_get C O rest _ k
theorem wrong_noA {C : Circ} {st : List Bool} {q : Nat} {z : Tri} {y : Bool} (hz : C.latches[q]? = some z) (hy : st[q]? = some y) (h : startP (z,y) = false) (ha : ((C.latches.zip st).take q).all startP = true) : wrongF C st = (q : Int) := by
 have h2 : (C.latches.zip st)[q]? = some (z,y):=by rw [List.getElem?_zip_eq_some]; exact ⟨hz,hy⟩
 have:=firstB_hit (p:=fun p => !startP p) (k:=0) (fun p hp => by simp [List.all_eq_true.1 ha p hp]) h2 (by simp [h])
 rw [Nat.zero_add] at this
 exact this
theorem wrong_endA {C : Circ} {st : List Bool} {n : Nat} (hn : C.latches.length = n) (ha : ((C.latches.zip st).take n).all startP = true) : wrongF C st = -1 := by
 rw [List.take_of_length_le (by rw [List.length_zip,hn]; exact Nat.min_le_left _ _)] at ha
 exact firstB_none (fun p hp => by simp [List.all_eq_true.1 ha p hp])
theorem placesG_mem (T : List Bool) : ∀ (zs : List Int) (k : Nat) (q : Nat) (l : Int),zs[q]? = some l → decide (((k + q : Nat) : Int) ∈ placesG T zs k) = litV T l
 | [],_,q,l,h => by simp at h
 | z :: r,k,0,l,h => by
   simp at h
   subst h
   unfold placesG
   by_cases hz : litV T z = true
   · rw [if_pos hz,hz]; simp
   · rw [if_neg hz]
     have h9 : ∀ (zs : List Int) (j : Nat),∀ p ∈ placesG T zs j,(j : Int) ≤ p:=by
      intro zs
      induction zs with
      | nil => intro j p hp; simp [placesG] at hp
      | cons y s ih =>
        intro j p hp
        unfold placesG at hp
        split at hp
        · rcases List.mem_cons.1 hp with rfl | hp
          · exact Int.le_refl _
          · have:=ih (j + 1) p hp; omega
        · have:=ih (j + 1) p hp; omega
     have hz2 : litV T z = false:=by simpa using hz
     rw [hz2]
     exact decide_eq_false (fun hm => by have:=h9 r (k + 1) _ hm; omega)
 | z :: r,k,q + 1,l,h => by
   have ih:=placesG_mem T r (k + 1) q l (by simpa using h)
   have e : ((k + (q + 1) : Nat) : Int) = ((k + 1 + q : Nat) : Int):=by omega
   have hd : placesG T (z :: r) k = if litV T z = true then (k : Int) :: placesG T r (k + 1) else placesG T r (k + 1):=rfl
   rw [e,hd]
   split
   · have hne : ¬ ((k + 1 + q : Nat) : Int) = (k : Int):=by omega
     simp only [List.mem_cons,hne,false_or]
     exact ih
   · exact ih
theorem places_mem {zs : List Int} {q : Nat} {l : Int} (h : zs[q]? = some l) (T : List Bool) : decide ((q : Int) ∈ placesF zs T) = litV T l := by
 have h9:=placesG_mem T zs 0 q l h
 rw [Nat.zero_add] at h9
 exact h9
theorem trues_stepA {L : List Bool} {k : Nat} {b : Bool} (h : L[k]? = some b) : truesG (L.take (k + 1)) 0 = truesG (L.take k) 0 ++ (if b = true then [(k : Int)] else []) := by
 rw [List.take_add_one,h]
 show truesG (L.take k ++ [b]) 0 = _
 have hk : k < L.length:=(List.getElem?_eq_some_iff.1 h).1
 rw [truesG_snoc]
 simp [List.length_take,Nat.min_eq_left (Nat.le_of_lt hk)]
set_option maxHeartbeats 1000000 in
theorem has_any (w : World) (v : Value) (L : List Int) (x : Int) (h : RowE 1 encI w v L) : Calls Tryz.prog 20 #[v,.int .i64 x] w fun e w' => e = .returned (.bool (decide (x ∈ L))) ∧ Below w.heap.size w w' := by
 have hlen:=h.len
 unfold maxLen at hlen
 obtain ⟨A,c,rfl,hc,hm,hp⟩:=h
 have HP:=zH hp
 obtain ⟨n,hn⟩ : ∃ n,L.length = n:=⟨_,rfl⟩
 have HN:=zH hn
 rw [hn] at hlen hc ⊢
 obtain ⟨r,hr⟩ : ∃ r,decide (x ∈ L) = r:=⟨_,rfl⟩
 have HR:=zH hr
 rw [hr]
 clear hp hm hn hr
 go_enter Tryz.func20,Tryz.ntmps20
 go_wp2
 go_loopg [5] n (fun g i wr => ∃ k : Nat,k ≤ n ∧ g = n - k ∧ i = .int .i64 k ∧ (x ∉ L.take k) ∧ Below w.heap.size w wr)
 case atStart => exact ⟨0,Nat.zero_le _,rfl,rfl,by simp,Below.refl _ _⟩
 case round =>
  obtain ⟨k,hk,hgk,rfl,hall,hbw⟩:=hrel
  subst hgk
  have HA:=zH hall
  clear hall
  by_cases hlt : k < n
  · obtain ⟨y,hy⟩ : ∃ y,L[k]? = some y:=⟨_,List.getElem?_eq_getElem (by rw [HN.out]; exact hlt)⟩
    obtain ⟨b,off,e,hb,hcell⟩:=HP.out k y hy
    subst e
    have HY:=zH hy
    clear hy
    have h0:=(hbw.cell (p:=⟨b,off + (k * 1 + 0),none⟩) hb).trans (hcell 0 _ rfl)
    simp only [Nat.add_zero,Nat.mul_one] at h0
    clear hcell
    have hk0 : (0 : Int) ≤ (k : Int):=by omega
    have hk1 : (k : Int) < (n : Int):=by omega
    by_cases hxy : y = x
    · subst hxy
      have HRE : Hid (true = r):=zH (by rw [← HR.out]; exact (decide_eq_true (List.mem_of_getElem? HY.out)).symm)
      have hb9 : (y == y) = true:=by simp
      go_wp2
      go_ret
      exact ⟨retB HRE.out,hbw⟩
    · have hb9 : (y == x) = false:=by simpa using hxy
      have HNX : Hid (x ∉ L.take (k + 1)):=zH (fun hm => by
       rw [List.take_add_one,HY.out] at hm
       rcases List.mem_append.1 hm with hm | hm
       · exact HA.out hm
       · simp at hm; exact hxy hm.symm)
      clear hxy
      go_wp2
      go_roundg (n - (k + 1))
      case measure => omega
      case rel => exact ⟨k + 1,by omega,rfl,by go_num,HNX.out,hbw⟩
  · have hke : n = k:=by omega
    subst hke
    have HRE : Hid (false = r):=zH (by rw [← HR.out]; have h9:=HA.out; rw [List.take_of_length_le (by rw [HN.out]; exact Nat.le_refl _)] at h9; exact (decide_eq_false h9).symm)
    go_wp2
    go_ret
    exact ⟨retB HRE.out,hbw⟩
open Go.RowKit

set_option maxHeartbeats 8000000 in
set_option maxRecDepth 100000 in
theorem rBegun_any (w : World) (V : CV) (C : Circ) (U : TV) (t : Tr) (O : List Int) (h : C.In w V) (ok : C.Ok) (rm : C.Room) (htn : ∀ s ∈ C.comments,s.size ≤ maxLen) (ht : t.In w U) (hck : (checkR C).2 = 0) (hO : IsOrd C O) (hfb : fitsB C t = true) :
 Calls Tryz.prog 19 #[V.val C.max,U.val t.loop] w fun e w' => Below w.heap.size w w' ∧ ∃ v u,e = .returned (.tuple #[v,u,.int .i64 (walkR C O t).1,.int .i64 (walkR C O t).2]) ∧ ((walkR C O t).2 = 0 → MomRow w' v (momsG C O t.init t.rows)):=by
 have hrt:=right_of hck
 have hf:=fits_of hfb
 have HOR:=zH (fun (wx : World) (hb : Below w.heap.size w wx) => rOrder_any wx V C (h.below hb) ok htn)
 have HRU:=zH (fun (wx : World) (hb : Below w.heap.size w wx) (gv : Value) (hg : RowE 1 encI wx gv O) => rRun0_any wx V C U t O gv (h.below hb) hrt (sum_ok hck rm) (ht.below hb) hg hO hf)
 rw [hck] at HOR
 have HLA : Hid (∀ z ∈ C.latches,2 ≤ z.1 ∧ (z.2.2 = 0 ∨ z.2.2 = 1 ∨ z.2.2 = z.1)):=zH (fun z hz => by have:=hrt.l z hz; exact ⟨this.1.1,this.2.2⟩)
 have HSAM:=zH (fun (P : List Int) (g : Greedy (usesC C) P) (l : P.length = C.ands.length) => hO.same g l)
 have hnl16:=hrt.nl
 have hls:=hf.i
 have hn512:=hf.n2
 obtain ⟨ra,rE,hwr⟩ : ∃ x y,walkR C O t = (x,y):=⟨_,_,rfl⟩
 have HWR : Hid ((if wrongF C t.init ≠ -1 then (wrongF C t.init,134) else if brokF C (valsT C O t) ≠ -1 then (brokF C (valsT C O t),130) else ((0 : Int),(0 : Int))) = (ra,rE)):=zH (by have h9:=hwr; unfold walkR at h9; rwa [if_neg (by simp [hfb])] at h9)
 rw [hwr]
 simp only
 have HNO:=zH (fun (q : Nat) (z : Tri) (y : Bool) (a : C.latches[q]? = some z) (b : t.init[q]? = some y) => wrong_noA a b)
 have HYES:=zH (fun (q : Nat) (z : Tri) (y : Bool) (a : C.latches[q]? = some z) (b : t.init[q]? = some y) => start_yes a b)
 have HEND:=zH (fun (n : Nat) (a : C.latches.length = n) => wrong_endA (st:=t.init) a)
 have hbt:=h.b
 obtain ⟨bA,bc,eb,-⟩ : ∃ A c,V.b = .slice A C.bads.length c ∧ True:=by obtain ⟨A,c,e,_⟩:=h.b; exact ⟨A,c,e,trivial⟩
 obtain ⟨AL,cL,eL,-,-,rL⟩:=h.l
 obtain ⟨iA,ic,ei,-,-,rS⟩:=ht.i
 obtain ⟨rA,rc,er,hrm,-⟩:=ht.r.at_
 obtain ⟨Vi,Vl,Vo,Vb,Vc,Vj,Vf,Va,Vs,Vt⟩:=V
 obtain ⟨Ui,Ur⟩:=U
 simp only at eb eL ei er hbt
 subst eb eL ei er
 obtain ⟨m,hmm⟩ : ∃ m,C.max = m:=⟨_,rfl⟩
 obtain ⟨n,hn⟩ : ∃ n,t.rows.length = n:=⟨_,rfl⟩
 obtain ⟨il,hil⟩ : ∃ n,t.init.length = n:=⟨_,rfl⟩
 obtain ⟨nl,hnl⟩ : ∃ n,C.latches.length = n:=⟨_,rfl⟩
 obtain ⟨lp,hlp⟩ : ∃ lp,t.loop = lp:=⟨_,rfl⟩
 obtain ⟨bn,hbn⟩ : ∃ k,C.bads.length = k:=⟨_,rfl⟩
 rw [hmm,hnl,hbn] at HOR
 rw [hmm,hnl,hbn,hn,hil,hlp] at HRU
 rw [hnl] at hnl16 hls
 rw [hil] at hls
 rw [hn] at hn512
 subst hls
 rw [hmm,hn,hil,hlp,hbn,hnl]
 have HMM:=zH (And.intro hn (And.intro hil hnl))
 have HRL:=zH rL
 have HRS:=zH rS
 clear h ok rm htn ht hck hO hfb hrt hf hwr hmm hn hil hnl hlp hbn rL rS hbt hrm
 obtain ⟨W0,hW⟩ : ∃ W,W = (w.alloc (.cells #[.int .i64 m,Vi,.slice AL il cL,Vo,.slice bA bn bc,Vc,Vj,Vf,Va,Vs,Vt] 29)).alloc (.cells #[.slice iA il ic,.slice rA n rc,.int .i64 lp] 33):=⟨_,rfl⟩
 have HALL : Hid (∀ wz,Below W0.heap.size W0 wz → Blk wz w.heap.size 29 #[.int .i64 m,Vi,.slice AL il cL,Vo,.slice bA bn bc,Vc,Vj,Vf,Va,Vs,Vt] ∧ Blk wz (w.heap.size + 1) 33 #[.slice iA il ic,.slice rA n rc,.int .i64 lp] ∧ Below w.heap.size w wz):=zH (fun wz hb => by
  rw [hW] at hb
  have h1 : Below w.heap.size w wz:=(((Below.refl w.heap.size w).alloc zN _).alloc (by simp) _).trans (hb.mono (by simp; omega))
  have e1:=((Blk.new w 29 #[.int .i64 m,Vi,.slice AL il cL,Vo,.slice bA bn bc,Vc,Vj,Vf,Va,Vs,Vt]).alloc (.cells #[.slice iA il ic,.slice rA n rc,.int .i64 lp] 33)).below hb (by simp; omega)
  have e2:=(Blk.new (w.alloc (.cells #[.int .i64 m,Vi,.slice AL il cL,Vo,.slice bA bn bc,Vc,Vj,Vf,Va,Vs,Vt] 29)) 33 #[.slice iA il ic,.slice rA n rc,.int .i64 lp]).below hb (by simp)
  rw [show (w.alloc (.cells #[.int .i64 m,Vi,.slice AL il cL,Vo,.slice bA bn bc,Vc,Vj,Vf,Va,Vs,Vt] 29)).heap.size = w.heap.size + 1 by simp] at e2
  exact ⟨e1,e2,h1⟩)
 have HX : Hid (Below W0.heap.size W0 W0):=zH (Below.refl _ _)
 obtain ⟨c0,c1,c2,c3,c4,c5,c6,c7,c8,c9,c10⟩:=rbox_of (HALL.out _ HX.out).1
 obtain ⟨d0,d1,d2⟩:=trio_of (HALL.out _ HX.out).2.1
 have HWW:=zH hW
 clear hW
 go_enter Tryz.func19,Tryz.ntmps19
 go_upto_region 1 with (fail)
 rw [← HWW.out]
 go_upto_region 2 with (go_at_call 46; refine (HOR.out _ (HALL.out _ HX.out).2.2).mono ?_; rintro e w1 ⟨hb,ov,out,rfl,_,hyes⟩; obtain ⟨hown,hg,hl9⟩:=hyes rfl; have hoe:=HSAM.out out hg hl9; rw [hoe] at hown; clear hoe; have HOV:=zH (own_rowe (zs:=O) lenI (by rw [flat_ints]; exact hown)); clear hyes hown hg hl9; have HXN:=zH (bt HX.out zN hb); clear HX hb c0 c1 c2 c3 c4 c5 c6 c7 c8 c9 c10 d0 d1 d2; have HX:=HXN; clear HXN; obtain ⟨c0,c1,c2,c3,c4,c5,c6,c7,c8,c9,c10⟩:=rbox_of (HALL.out _ HX.out).1; obtain ⟨d0,d1,d2⟩:=trio_of (HALL.out _ HX.out).2.1)
 go_wp2
 go_loopg [10] il (fun k j wx => ∃ q : Nat,q ≤ il ∧ k = il - q ∧ j = .int .i64 q ∧ ((C.latches.zip t.init).take q).all startP = true ∧ Below w1.heap.size w1 wx)
 case atStart => exact ⟨0,Nat.zero_le _,rfl,rfl,rfl,Below.refl _ _⟩
 case round =>
  obtain ⟨q,hq,hgk,rfl,hal,hbw⟩:=hrel
  subst hgk
  have HAL:=zH hal
  have HBW:=zH hbw
  clear hal hbw c0 c1 c2 c3 c4 c5 c6 c7 c8 c9 c10 d0 d1 d2
  have HX2:=zH (bt HX.out zN HBW.out)
  obtain ⟨c0,c1,c2,c3,c4,c5,c6,c7,c8,c9,c10⟩:=rbox_of (HALL.out _ HX2.out).1
  obtain ⟨d0,d1,d2⟩:=trio_of (HALL.out _ HX2.out).2.1
  by_cases hlt : q < il
  · obtain ⟨z,hz⟩ : ∃ z,C.latches[q]? = some z:=⟨_,List.getElem?_eq_getElem (by rw [HMM.out.2.2]; exact hlt)⟩
    obtain ⟨y,hy⟩ : ∃ y,t.init[q]? = some y:=⟨_,List.getElem?_eq_getElem (by rw [HMM.out.2.1]; exact hlt)⟩
    obtain ⟨b,off,e,hb,hcell⟩:=HRL.out q z hz
    subst e
    obtain ⟨b2,off2,e,hb2,hcell2⟩:=HRS.out q y hy
    subst e
    have HZ:=zH (HLA.out z (List.mem_of_getElem? hz))
    have HN0:=zH (HNO.out q z y hz hy)
    have HY0:=zH (HYES.out q z y hz hy)
    obtain ⟨z0,z1,z2⟩:=z
    have hbl:=(HALL.out _ HX2.out).2.2
    have h2:=(hbl.cell (p:=⟨b,off + (q * 3 + 2),none⟩) hb).trans (hcell 2 _ rfl)
    have h3:=(hbl.cell (p:=⟨b2,off2 + (q * 1 + 0),none⟩) hb2).trans (hcell2 0 _ rfl)
    simp only [Nat.mul_one,Nat.add_zero,← Nat.add_assoc] at h2 h3
    have hql : (q : Int) < (il : Int):=by omega
    have hql0 : (0 : Int) ≤ (q : Int):=by omega
    clear hcell hcell2 hz hy hbl
    obtain ⟨hz0,hzr⟩:=HZ.out
    simp only at hz0 hzr
    have hcases : (startP ((z0,z1,z2),y) = true ∧ ((z2 ≠ 0 ∧ z2 ≠ 1) ∨ (z2 = 0 ∧ y = false) ∨ (z2 = 1 ∧ y = true))) ∨ (startP ((z0,z1,z2),y) = false ∧ ((z2 = 0 ∧ y = true) ∨ (z2 = 1 ∧ y = false))):=by
     rcases hzr with rfl | rfl | rfl
     · have h5 : ¬ (0 = z0):=by omega
       cases y
       · exact .inl ⟨by simp [startP],.inr (.inl ⟨rfl,rfl⟩)⟩
       · exact .inr ⟨by simp [startP,h5],.inl ⟨rfl,rfl⟩⟩
     · have h5 : ¬ (1 = z0):=by omega
       cases y
       · exact .inr ⟨by simp [startP,h5],.inr ⟨rfl,rfl⟩⟩
       · exact .inl ⟨by simp [startP],.inr (.inr ⟨rfl,rfl⟩)⟩
     · exact .inl ⟨by simp [startP],.inl ⟨by omega,by omega⟩⟩
    clear hz0 hzr
    rcases hcases with ⟨hp,hc⟩ | ⟨hp,hc⟩
    · have HNX:=zH (HY0.out hp HAL.out)
      clear hp
      rcases hc with ⟨h7,h8⟩ | ⟨rfl,rfl⟩ | ⟨rfl,rfl⟩
      · have h9 : (z2 == (0 : Int)) = false:=by simpa using h7
        have h10 : (z2 == (1 : Int)) = false:=by simpa using h8
        clear h7 h8
        go_wp2
        go_roundg (il - (q + 1))
        case measure => omega
        case rel => exact ⟨q + 1,by omega,rfl,by go_num,HNX.out,HBW.out⟩
      · go_wp2
        go_roundg (il - (q + 1))
        case measure => omega
        case rel => exact ⟨q + 1,by omega,rfl,by go_num,HNX.out,HBW.out⟩
      · go_wp2
        go_roundg (il - (q + 1))
        case measure => omega
        case rel => exact ⟨q + 1,by omega,rfl,by go_num,HNX.out,HBW.out⟩
    · have HF : Hid ((q : Int) = ra ∧ 134 = rE):=zH (by
       have h8:=HN0.out hp HAL.out
       have h9:=HWR.out
       rw [h8,if_pos (by omega)] at h9
       injection h9 with h6 h7
       exact ⟨h6,h7⟩)
      clear hp
      rcases hc with ⟨rfl,rfl⟩ | ⟨rfl,rfl⟩
      · go_wp2
        (try simp only [Exit.inBlock,Exit.then]); refine bodyPost_ret (results_tmp4 rfl _ _ _) rfl ?_
        exact ⟨(HALL.out _ HX2.out).2.2,_,⟨_,retU HF.out.1 HF.out.2⟩,fun h9 => absurd (HF.out.2.trans h9) (by decide)⟩
      · go_wp2
        (try simp only [Exit.inBlock,Exit.then]); refine bodyPost_ret (results_tmp4 rfl _ _ _) rfl ?_
        exact ⟨(HALL.out _ HX2.out).2.2,_,⟨_,retU HF.out.1 HF.out.2⟩,fun h9 => absurd (HF.out.2.trans h9) (by decide)⟩
  · have hqe : q = il:=by omega
    subst hqe
    have hwf:=HEND.out _ HMM.out.2.2 HAL.out
    have HWR2 : Hid ((if brokF C (valsT C O t) ≠ -1 then (brokF C (valsT C O t),130) else ((0 : Int),(0 : Int))) = (ra,rE)):=zH (by have h9:=HWR.out; rwa [hwf,if_neg (by simp)] at h9)
    obtain ⟨Ts,hTs⟩ : ∃ Ts,valsT C O t = Ts:=⟨_,rfl⟩
    rw [hTs] at HWR2
    have HTS : Hid (valsG C O t.init t.rows = Ts ∧ Ts.length = n):=zH ⟨hTs,by rw [← hTs]; exact (valsG_len C O _ _).trans HMM.out.1⟩
    have HHIT:=zH (fun (k : Nat) (T : List Bool) (h1 : ∀ y ∈ Ts.take k,(!holdsF C y) = false) (h2 : Ts[k]? = some T) (h3 : (!holdsF C T) = true) => (firstB_hit (p:=fun T => !holdsF C T) (k:=0) h1 h2 h3))
    have HEN2:=zH (fun (h1 : ∀ y ∈ Ts,(!holdsF C y) = false) => (firstB_none (p:=fun T => !holdsF C T) (k:=0) h1))
    clear hwf hTs hlt hq
    go_upto_region 9 with (go_at_call 47; refine (HRU.out _ (HALL.out _ HX2.out).2.2 _ (HOV.out.below HBW.out)).mono ?_; rintro e w5 ⟨hb,mA,mc,u,rfl,xs,hdm⟩; have HMR:=zH hdm.row; have HX5:=zH (bt HX2.out zN hb); clear hb hdm)
    obtain ⟨mA',mc',me,hmn,hmc,hmr⟩:=HMR.out
    rw [momsG_len,HMM.out.1] at me hmn
    injection me with me1 _ me3
    subst me1 me3
    have HMX:=zH hmr
    have HMG:=zH (fun (k : Nat) => momsG_get C O t.rows t.init k)
    clear hmr hmn hmc c0 c1 c2 c3 c4 c5 c6 c7 c8 c9 c10 d0 d1 d2
    go_wp2
    go_loopg [14] n (fun z iv wx => ∃ k : Nat,k ≤ n ∧ z = n - k ∧ iv = .int .i64 k ∧ (∀ y ∈ Ts.take k,(!holdsF C y) = false) ∧ Below w5.heap.size w5 wx)
    case atStart => exact ⟨0,Nat.zero_le _,rfl,rfl,by simp,Below.refl _ _⟩
    case round =>
     obtain ⟨k,hk,hgk,rfl,hall,hbw⟩:=hrel
     subst hgk
     have HA:=zH hall
     have HB:=zH hbw
     clear hall hbw
     by_cases hlt : k < n
     · obtain ⟨T,hT⟩ : ∃ T,Ts[k]? = some T:=⟨_,List.getElem?_eq_getElem (by rw [HTS.out.2]; exact hlt)⟩
       have hmg:=HMG.out k
       rw [HTS.out.1,hT] at hmg
       obtain ⟨mb,mo,x,e,hat⟩:=HMX.out k _ hmg
       subst e
       have e1:=(hat.below HB.out).c1
       have hxh : x.h = holdsF C T:=hat.h
       rw [hxh] at e1
       obtain ⟨hh,hhe⟩ : ∃ b,holdsF C T = b:=⟨_,rfl⟩
       rw [hhe] at e1
       have HHE:=zH hhe
       have HT:=zH hT
       have hk0 : (0 : Int) ≤ (k : Int):=by omega
       have hk1 : (k : Int) < (n : Int):=by omega
       clear hmg hat hxh hhe hT
       cases hh with
       | false =>
         have HF : Hid ((k : Int) = ra ∧ 130 = rE):=zH (by
          have h8 : brokF C Ts = (k : Int):=(HHIT.out k T HA.out HT.out (by rw [HHE.out]; rfl)).trans (by simp)
          have h9:=HWR2.out
          rw [h8,if_pos (by omega)] at h9
          injection h9 with h6 h7
          exact ⟨h6,h7⟩)
         go_wp2
         (try simp only [Exit.inBlock,Exit.then]); refine bodyPost_ret (results_tmp4 rfl _ _ _) rfl ?_
         exact ⟨bt (HALL.out _ HX5.out).2.2 zN HB.out,_,_,retU HF.out.1 HF.out.2,fun h9 => absurd (HF.out.2.trans h9) (by decide)⟩
       | true =>
         have HAN : Hid (∀ y ∈ Ts.take (k + 1),(!holdsF C y) = false):=zH (fun y hy => by
          rw [List.take_add_one,HT.out] at hy
          rcases List.mem_append.1 hy with hy | hy
          · exact HA.out y hy
          · simp at hy; subst hy; rw [HHE.out]; rfl)
         go_wp2
         go_roundg (n - (k + 1))
         case measure => omega
         case rel => exact ⟨k + 1,by omega,rfl,by go_num,HAN.out,HB.out⟩
     · have hke : n = k:=by omega
       subst hke
       have HF : Hid (0 = ra ∧ 0 = rE):=zH (by
        have h8 : brokF C Ts = -1:=HEN2.out (by have h9:=HA.out; rwa [List.take_of_length_le (by rw [HTS.out.2]; exact Nat.le_refl _)] at h9)
        have h9:=HWR2.out
        rw [h8,if_neg (by simp)] at h9
        injection h9 with h6 h7
        exact ⟨h6,h7⟩)
       clear hlt hk
       go_wp2
       (try simp only [Exit.inBlock,Exit.then]); refine bodyPost_ret (results_tmp4 rfl _ _ _) rfl ?_
       exact ⟨bt (HALL.out _ HX5.out).2.2 zN HB.out,_,_,retU HF.out.1 HF.out.2,fun _ => HMR.out.below HB.out⟩

set_option maxHeartbeats 8000000 in
set_option maxRecDepth 100000 in
theorem rReached_any (w : World) (V : CV) (C : Circ) (U : TV) (t : Tr) (O : List Int) (h : C.In w V) (ok : C.Ok) (rm : C.Room) (htn : ∀ s ∈ C.comments,s.size ≤ maxLen) (ht : t.In w U) (hO : (checkR C).2 = 0 → IsOrd C O) :
 Calls Tryz.prog 7 #[V.val C.max,U.val t.loop] w fun e w' => ∃ v,e = .returned (.tuple #[v,.int .i64 (reachE C O t)]) ∧ w'.ownsRow w.heap.size 3 1 v (reachL C O t).length ((reachL C O t).map (Value.int .i64)) ∧ Below w.heap.size w w':=by
 obtain ⟨be0,hbe0⟩ : ∃ x,reachE C O t = x:=⟨_,rfl⟩
 obtain ⟨bl0,hbl0⟩ : ∃ x,reachL C O t = x:=⟨_,rfl⟩
 have HBE:=zH hbe0
 have HBL:=zH hbl0
 rw [hbe0,hbl0]
 clear hbe0 hbl0
 have HCH:=zH (fun (wx : World) (hb : Below w.heap.size w wx) => rCheck_any wx V C (h.below hb) ok htn)
 have HFI:=zH (fun (wx : World) (hb : Below w.heap.size w wx) => rFits_any wx V C U t (h.below hb) (ht.below hb))
 have HBG:=zH (fun (wx : World) (hb : Below w.heap.size w wx) (hck : (checkR C).2 = 0) (hfb : fitsB C t = true) => rBegun_any wx V C U t O (h.below hb) ok rm htn (ht.below hb) hck (hO hck) hfb)
 have hbt:=h.b
 obtain ⟨bA,bc,eb,-⟩ : ∃ A c,V.b = .slice A C.bads.length c ∧ True:=by obtain ⟨A,c,e,_⟩:=h.b; exact ⟨A,c,e,trivial⟩
 obtain ⟨AL,cL,eL,-,-,rL⟩:=h.l
 obtain ⟨iA,ic,ei,-,-,rS⟩:=ht.i
 obtain ⟨rA,rc,er,hrm,-⟩:=ht.r.at_
 obtain ⟨Vi,Vl,Vo,Vb,Vc,Vj,Vf,Va,Vs,Vt⟩:=V
 obtain ⟨Ui,Ur⟩:=U
 simp only at eb eL ei er hbt
 subst eb eL ei er
 obtain ⟨m,hmm⟩ : ∃ m,C.max = m:=⟨_,rfl⟩
 obtain ⟨n,hn⟩ : ∃ n,t.rows.length = n:=⟨_,rfl⟩
 obtain ⟨il,hil⟩ : ∃ n,t.init.length = n:=⟨_,rfl⟩
 obtain ⟨nl,hnl⟩ : ∃ n,C.latches.length = n:=⟨_,rfl⟩
 obtain ⟨lp,hlp⟩ : ∃ lp,t.loop = lp:=⟨_,rfl⟩
 obtain ⟨bn,hbn⟩ : ∃ k,C.bads.length = k:=⟨_,rfl⟩
 rw [hmm,hbn,hnl] at HCH
 rw [hmm,hbn,hnl,hn,hil,hlp] at HFI HBG
 rw [hmm,hn,hil,hlp,hbn,hnl]
 have HMM:=zH (And.intro hn hbn)
 obtain ⟨r,hr⟩ : ∃ r,(checkR C).2 = r:=⟨_,rfl⟩
 rw [hr] at HCH
 have HR:=zH hr
 clear h ok rm htn ht hO hmm hn hil hnl hlp hbn rL rS hbt hrm hr
 obtain ⟨W0,hW⟩ : ∃ W,W = (w.alloc (.cells #[.int .i64 m,Vi,.slice AL nl cL,Vo,.slice bA bn bc,Vc,Vj,Vf,Va,Vs,Vt] 29)).alloc (.cells #[.slice iA il ic,.slice rA n rc,.int .i64 lp] 33):=⟨_,rfl⟩
 have HALL : Hid (∀ wz,Below W0.heap.size W0 wz → Blk wz w.heap.size 29 #[.int .i64 m,Vi,.slice AL nl cL,Vo,.slice bA bn bc,Vc,Vj,Vf,Va,Vs,Vt] ∧ Blk wz (w.heap.size + 1) 33 #[.slice iA il ic,.slice rA n rc,.int .i64 lp] ∧ Below w.heap.size w wz):=zH (fun wz hb => by
  rw [hW] at hb
  have h1 : Below w.heap.size w wz:=(((Below.refl w.heap.size w).alloc zN _).alloc (by simp) _).trans (hb.mono (by simp; omega))
  have e1:=((Blk.new w 29 #[.int .i64 m,Vi,.slice AL nl cL,Vo,.slice bA bn bc,Vc,Vj,Vf,Va,Vs,Vt]).alloc (.cells #[.slice iA il ic,.slice rA n rc,.int .i64 lp] 33)).below hb (by simp; omega)
  have e2:=(Blk.new (w.alloc (.cells #[.int .i64 m,Vi,.slice AL nl cL,Vo,.slice bA bn bc,Vc,Vj,Vf,Va,Vs,Vt] 29)) 33 #[.slice iA il ic,.slice rA n rc,.int .i64 lp]).below hb (by simp)
  rw [show (w.alloc (.cells #[.int .i64 m,Vi,.slice AL nl cL,Vo,.slice bA bn bc,Vc,Vj,Vf,Va,Vs,Vt] 29)).heap.size = w.heap.size + 1 by simp] at e2
  exact ⟨e1,e2,h1⟩)
 have HX : Hid (Below W0.heap.size W0 W0):=zH (Below.refl _ _)
 obtain ⟨c0,c1,c2,c3,c4,c5,c6,c7,c8,c9,c10⟩:=rbox_of (HALL.out _ HX.out).1
 obtain ⟨d0,d1,d2⟩:=trio_of (HALL.out _ HX.out).2.1
 have HWW:=zH hW
 clear hW
 have HNIL : Hid (∀ wz,be0 ≠ 0 → World.ownsRow wz w.heap.size 3 1 (.slice none 0 0) bl0.length (bl0.map (Value.int .i64))):=zH (fun wz h9 => by
  have h8:=HBL.out
  unfold reachL at h8
  rw [if_neg (by rw [HBE.out]; exact h9)] at h8
  subst h8
  exact World.ownsRow_nil _ _ _ _)
 by_cases h0 : r = 0
 · subst h0
   have HB1 : Hid ((walkR C O t).2 = be0):=zH (by
    have h9:=HBE.out
    unfold reachE at h9
    rwa [if_neg (by rw [HR.out]; simp)] at h9)
   have hnb:=(right_of HR.out).nb
   rw [HMM.out.2] at hnb
   by_cases hfb : fitsB C t = true
   · rw [hfb] at HFI
     obtain ⟨ra,rE,hwr⟩ : ∃ x y,walkR C O t = (x,y):=⟨_,_,rfl⟩
     have hbg:=fun (wx : World) (hb : Below w.heap.size w wx) => HBG.out wx hb HR.out hfb
     have hn512:=(fits_of hfb).n2
     rw [HMM.out.1] at hn512
     rw [hwr] at hbg HB1
     simp only at hbg HB1
     have HB2:=zH hbg
     clear hbg HBG hfb hwr
     go_enter Tryz.func7,Tryz.ntmps7
     go_upto_region 1 with (fail)
     rw [← HWW.out]
     go_upto_region 7 with (first
      | (go_at_call 17; refine (HCH.out _ (HALL.out _ HX.out).2.2).mono ?_; rintro e w1 ⟨rfl,hb⟩; have HXN:=zH (bt HX.out zN hb); clear HX hb c0 c1 c2 c3 c4 c5 c6 c7 c8 c9 c10 d0 d1 d2; have HX:=HXN; clear HXN; obtain ⟨c0,c1,c2,c3,c4,c5,c6,c7,c8,c9,c10⟩:=rbox_of (HALL.out _ HX.out).1; obtain ⟨d0,d1,d2⟩:=trio_of (HALL.out _ HX.out).2.1)
      | (go_at_call 18; refine (HFI.out _ (HALL.out _ HX.out).2.2).mono ?_; rintro e w2 ⟨rfl,hb⟩; have HXN:=zH (bt HX.out zN hb); clear HX hb c0 c1 c2 c3 c4 c5 c6 c7 c8 c9 c10 d0 d1 d2; have HX:=HXN; clear HXN; obtain ⟨c0,c1,c2,c3,c4,c5,c6,c7,c8,c9,c10⟩:=rbox_of (HALL.out _ HX.out).1; obtain ⟨d0,d1,d2⟩:=trio_of (HALL.out _ HX.out).2.1)
      | (go_at_call 19; refine (HB2.out _ (HALL.out _ HX.out).2.2).mono ?_; rintro e w3 ⟨hb,mv,bv,rfl,hyes⟩; have HYE:=zH hyes; clear hyes; have HXN:=zH (bt HX.out zN hb); clear HX hb c0 c1 c2 c3 c4 c5 c6 c7 c8 c9 c10 d0 d1 d2; have HX:=HXN; clear HXN; obtain ⟨c0,c1,c2,c3,c4,c5,c6,c7,c8,c9,c10⟩:=rbox_of (HALL.out _ HX.out).1; obtain ⟨d0,d1,d2⟩:=trio_of (HALL.out _ HX.out).2.1))
     by_cases h3 : rE = 0
     · subst h3
       have hmr:=HYE.out rfl
       obtain ⟨mA,mc,me,_,_,hmx⟩:=hmr
       rw [momsG_len,HMM.out.1] at me
       subst me
       have HMX:=zH hmx
       have HMG:=zH (fun (k : Nat) => momsG_get C O t.rows t.init k)
       obtain ⟨Ts,hTs⟩ : ∃ Ts,valsT C O t = Ts:=⟨_,rfl⟩
       have HTS : Hid (valsG C O t.init t.rows = Ts ∧ Ts.length = n):=zH ⟨hTs,by rw [← hTs]; exact (valsG_len C O _ _).trans HMM.out.1⟩
       obtain ⟨L,hL⟩ : ∃ L,cameS C.bads Ts = L:=⟨_,rfl⟩
       have HLL : Hid (L.length = bn):=zH (by rw [← hL,cameS_len]; exact HMM.out.2)
       have HLB : Hid (truesG L 0 = bl0):=zH (by
        have h9:=HBL.out
        unfold reachL at h9
        rwa [if_pos (by rw [HBE.out]; exact HB1.out.symm),hTs,hL] at h9)
       have HLG : Hid (∀ (q : Nat) (l : Int),C.bads[q]? = some l → L[q]? = some (Ts.any fun T => litV T l)):=zH (fun q l hl => by rw [← hL]; simp [cameS,hl])
       clear hmx hTs hL HYE
       go_wp2
       go_loopg [12,13] bn (fun z ov iv wx => ∃ q r : Nat,q ≤ bn ∧ iv = .int .i64 q ∧ z = bn - q ∧ (truesG (L.take q) 0).length = r ∧ r ≤ q ∧ wx.ownsRow w3.heap.size 3 1 ov r ((truesG (L.take q) 0).map (Value.int .i64)) ∧ Below w3.heap.size w3 wx)
       case atStart => exact ⟨0,0,Nat.zero_le _,rfl,rfl,rfl,Nat.le_refl _,⟨rfl,.inl ⟨rfl,rfl⟩⟩,Below.refl _ _⟩
       case round =>
        obtain ⟨q,r,hq,rfl,hgk,hrl,hrk,hown,hbl⟩:=hrel
        subst hgk
        have HO:=zH hown
        have HB:=zH hbl
        have HRL:=zH hrl
        clear hown hbl hrl c0 c1 c2 c3 c4 c5 c6 c7 c8 c9 c10 d0 d1 d2
        have HX4:=zH (bt HX.out zN HB.out)
        obtain ⟨c0,c1,c2,c3,c4,c5,c6,c7,c8,c9,c10⟩:=rbox_of (HALL.out _ HX4.out).1
        obtain ⟨d0,d1,d2⟩:=trio_of (HALL.out _ HX4.out).2.1
        obtain ⟨Ao,co,hov⟩:=own_slice1 HO.out
        subst hov
        obtain ⟨wo,hwo⟩ : ∃ x,x = wr:=⟨_,rfl⟩
        subst hwo
        by_cases hlt : q < bn
        · obtain ⟨l,hl⟩ : ∃ l,C.bads[q]? = some l:=⟨_,List.getElem?_eq_getElem (by rw [HMM.out.2]; exact hlt)⟩
          have HL:=zH hl
          have HLQ:=zH (HLG.out q l hl)
          have hq1 : (q : Int) < (bn : Int):=by omega
          clear hl
          go_wp2
          go_loopg [12,14] n (fun z ov iv wx => ∃ i : Nat,i ≤ n ∧ z = n - i ∧ ov = .slice Ao r co ∧ iv = .int .i64 i ∧ ((Ts.take i).any fun T => litV T l) = false ∧ Below wo.heap.size wo wx)
          case atStart => exact ⟨0,Nat.zero_le _,rfl,rfl,rfl,by simp,Below.refl _ _⟩
          case round =>
           obtain ⟨i,hi,hgk,rfl,rfl,hno,hbw⟩:=hrel
           subst hgk
           have HN:=zH hno
           have HB5:=zH hbw
           clear hno hbw
           by_cases hin : i < n
           · obtain ⟨T,hT⟩ : ∃ T,Ts[i]? = some T:=⟨_,List.getElem?_eq_getElem (by rw [HTS.out.2]; exact hin)⟩
             have hmg:=HMG.out i
             rw [HTS.out.1,hT] at hmg
             obtain ⟨mb,mo,x,e,hat⟩:=HMX.out i _ hmg
             subst e
             have hat2:=(hat.below HB.out).below HB5.out
             have e2:=hat2.c2
             have hbr : RowE 1 encI wr x.b (placesF C.bads T):=hat2.b
             have HHA:=zH (has_any wr _ _ (q : Int) hbr)
             obtain ⟨pA,pc,hpe,_⟩:=hbr
             rw [hpe] at e2 HHA
             obtain ⟨lt,hlte⟩ : ∃ b,litV T l = b:=⟨_,rfl⟩
             rw [places_mem HL.out T,hlte] at HHA
             have HST : Hid (((Ts.take (i + 1)).any fun T => litV T l) = lt):=zH (by rw [List.take_add_one,hT]; simp [HN.out,hlte])
             have HAL : Hid (lt = true → (Ts.any fun T => litV T l) = true):=zH (fun h9 => List.any_eq_true.2 ⟨T,List.mem_of_getElem? hT,hlte.trans h9⟩)
             have hi0 : (0 : Int) ≤ (i : Int):=by omega
             have hi1 : (i : Int) < (n : Int):=by omega
             clear hmg hat hat2 hpe hlte hT
             cases lt with
             | false =>
               go_wp2_with (go_at_call 20; refine HHA.out.mono ?_; rintro e w8 ⟨rfl,hb⟩; have HB8:=zH (bt HB5.out zN hb); clear hb)
               go_roundg (n - (i + 1))
               case measure => omega
               case rel => exact ⟨i + 1,by omega,rfl,rfl,by go_num,HST.out,HB8.out⟩
             | true =>
               have HTK : Hid (truesG (L.take (q + 1)) 0 = truesG (L.take q) 0 ++ [(q : Int)]):=zH (by
                have h9:=HLQ.out
                rw [HAL.out rfl] at h9
                rw [trues_stepA h9]; simp)
               obtain ⟨i0',hi0',hz0,hz1,hz2⟩:=info_of2 infoIS
               have HI0:=zH (And.intro hi0' (And.intro hz0 (And.intro hz1 hz2)))
               clear hi0' hz0 hz1 hz2
               go_wp2_with (first
                | (go_at_call 20; refine HHA.out.mono ?_; rintro e w8 ⟨rfl,hb⟩; have HB8:=zH (bt HB.out zN (bt HB5.out zN hb)); have HO8:=zH (own_below HO.out (bt HB5.out zN hb)); have HR1:=zH (reads_oneS w8 (.int .i64 (q : Int)) 3); clear hb c0 c1 c2 c3 c4 c5 c6 c7 c8 c9 c10 d0 d1 d2; have HX8:=zH (bt HX.out zN HB8.out); obtain ⟨c0,c1,c2,c3,c4,c5,c6,c7,c8,c9,c10⟩:=rbox_of (HALL.out _ HX8.out).1; obtain ⟨d0,d1,d2⟩:=trio_of (HALL.out _ HX8.out).2.1)
                | (at_builtin; refine wpList_append_any _ rfl (.tmp 58) (.tmp 60) _ rfl w3.heap.size 3 i0' _ 1 8 Tryz.underlying22 HI0.out.1 HI0.out.2.1 HI0.out.2.2.1 HI0.out.2.2.2 rfl (by omega) (.slice Ao r co) r ((truesG (L.take q) 0).map (Value.int .i64)) rfl (HO8.out.alloc _) (w8.heap.size + 1) (some ⟨w8.heap.size,0,none⟩) 1 1 [.int .i64 (q : Int)] rfl HR1.out (by simp [Value.oneCell']) (by simp only [maxLen]; omega) (by omega) (by have h9:=HB8.out.size; first | (simp; done) | (simp; omega)) ?_; intro v9 w9 hown9 hg9 hat9; have HB9:=zH ((HB8.out.alloc HB8.out.size (.cells #[.int .i64 (q : Int)] 3)).grown hg9 (by have h9:=HB8.out.size; first | (simp; done) | (simp; omega)) (fun g hg => (HO8.out.lt g hg).1)); have HO9:=zH hown9; clear hown9 hg9 hat9))
               go_roundg (bn - (q + 1))
               case measure => omega
               case rel => first
                | exact ⟨q + 1,r + 1,by omega,by go_num,rfl,by rw [HTK.out]; simp [HRL.out],by omega,by rw [HTK.out]; simpa using HO9.out,HB9.out⟩
                | ((repeat apply Exists.intro); exact ⟨⟨q + 1,r + 1,by omega,by go_num,rfl,by rw [HTK.out]; simp [HRL.out],by omega,by rw [HTK.out]; simpa using HO9.out,HB9.out⟩,rfl⟩)
           · have hie : n = i:=by omega
             subst hie
             have HTK : Hid (truesG (L.take (q + 1)) 0 = truesG (L.take q) 0):=zH (by
              have h9:=HLQ.out
              have h8:=HN.out
              rw [List.take_of_length_le (by rw [HTS.out.2]; exact Nat.le_refl _)] at h8
              rw [h8] at h9
              rw [trues_stepA h9]; simp)
             clear hin hi
             go_wp2
             go_roundg (bn - (q + 1))
             case measure => omega
             case rel => exact ⟨q + 1,r,by omega,by go_num,rfl,by rw [HTK.out]; exact HRL.out,by omega,by rw [HTK.out]; exact own_below HO.out HB5.out,bt HB.out zN HB5.out⟩
        · have hke : q = bn:=by omega
          subst hke
          go_wp2
          go_ret2
          have h9:=HO.out
          have h8:=HRL.out
          rw [List.take_of_length_le (by rw [HLL.out]; exact Nat.le_refl _),HLB.out] at h9 h8
          rw [← h8] at h9 ⊢
          exact ⟨_,retS HB1.out,own_le h9 (HALL.out _ HX.out).2.2.size,(HALL.out _ HX4.out).2.2⟩
     · have hq : (rE != 0) = true:=by simpa using h3
       have HH3:=zH h3
       go_wp2
       go_ret2
       exact ⟨_,retS HB1.out,HNIL.out _ (by rw [← HB1.out]; exact HH3.out),(HALL.out _ HX.out).2.2⟩
   · have hfb2 : fitsB C t = false:=by simpa using hfb
     rw [hfb2] at HFI
     have HE : Hid (4 = be0):=zH (by have h9:=HB1.out; unfold walkR at h9; rwa [if_pos hfb2] at h9)
     clear hfb hfb2
     go_enter Tryz.func7,Tryz.ntmps7
     go_upto_region 1 with (fail)
     rw [← HWW.out]
     go_wp2_with (first
      | (go_at_call 17; refine (HCH.out _ (HALL.out _ HX.out).2.2).mono ?_; rintro e w1 ⟨rfl,hb⟩; have HXN:=zH (bt HX.out zN hb); clear HX hb c0 c1 c2 c3 c4 c5 c6 c7 c8 c9 c10 d0 d1 d2; have HX:=HXN; clear HXN; obtain ⟨c0,c1,c2,c3,c4,c5,c6,c7,c8,c9,c10⟩:=rbox_of (HALL.out _ HX.out).1; obtain ⟨d0,d1,d2⟩:=trio_of (HALL.out _ HX.out).2.1)
      | (go_at_call 18; refine (HFI.out _ (HALL.out _ HX.out).2.2).mono ?_; rintro e w2 ⟨rfl,hb⟩; have HXN:=zH (bt HX.out zN hb); clear HX hb c0 c1 c2 c3 c4 c5 c6 c7 c8 c9 c10 d0 d1 d2; have HX:=HXN; clear HXN; obtain ⟨c0,c1,c2,c3,c4,c5,c6,c7,c8,c9,c10⟩:=rbox_of (HALL.out _ HX.out).1; obtain ⟨d0,d1,d2⟩:=trio_of (HALL.out _ HX.out).2.1))
     go_ret2
     exact ⟨_,retS HE.out,HNIL.out _ (by rw [← HE.out]; decide),(HALL.out _ HX.out).2.2⟩
 · have hq : (r != 0) = true:=by simpa using h0
   have HE : Hid (r = be0 ∧ be0 ≠ 0):=zH (by have h9:=HBE.out; unfold reachE at h9; rw [HR.out,if_pos h0] at h9; exact ⟨h9,by rw [← h9]; exact h0⟩)
   go_enter Tryz.func7,Tryz.ntmps7
   go_upto_region 1 with (fail)
   rw [← HWW.out]
   go_wp2_with (go_at_call 17; refine (HCH.out _ (HALL.out _ HX.out).2.2).mono ?_; rintro e w1 ⟨rfl,hb⟩; have HXN:=zH (bt HX.out zN hb); clear HX hb c0 c1 c2 c3 c4 c5 c6 c7 c8 c9 c10 d0 d1 d2; have HX:=HXN; clear HXN; obtain ⟨c0,c1,c2,c3,c4,c5,c6,c7,c8,c9,c10⟩:=rbox_of (HALL.out _ HX.out).1; obtain ⟨d0,d1,d2⟩:=trio_of (HALL.out _ HX.out).2.1)
   go_ret2
   exact ⟨_,retS HE.out.1,HNIL.out _ HE.out.2,(HALL.out _ HX.out).2.2⟩
end Go.Proofs.YtjbglgmbnjdhcaaGreat

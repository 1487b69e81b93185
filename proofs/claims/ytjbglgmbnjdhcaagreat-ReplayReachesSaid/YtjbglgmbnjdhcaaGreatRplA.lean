import Derived.Test.YtjbglgmbnjdhcaaGreatRplQ
import Derived.Test.YtjbglgmbnjdhcaaGreatSame3
namespace Go.Proofs.YtjbglgmbnjdhcaaGreat
open Go.RowKit

theorem retI {a b : Int} (h : a = b) : Ending.returned (Value.int .i64 a) = .returned (.int .i64 b) := by rw [h]
set_option maxHeartbeats 800000 in
theorem EqualO_any (w : World) (v u : Value) (xs ys : List Bool) (h : RowE 1 encO w v xs) (h' : RowE 1 encO w u ys) : Calls Tryz.prog 77 #[v,u] w fun e w' => e = .returned (.bool (decide (xs = ys))) ∧ Below w.heap.size w w' := by
 have hlen:=h.len
 have hlen':=h'.len
 unfold maxLen at hlen hlen'
 obtain ⟨A,c,rfl,hc,hm,hp⟩:=h
 obtain ⟨A',c',rfl,hc',hm',hq⟩:=h'
 generalize hr : decide (xs = ys) = r
 have HR:=zH hr
 clear hr hc hm hc' hm'
 have HP:=zH hp
 have HQ:=zH hq
 clear hp hq
 by_cases hne : xs.length = ys.length
 · rw [← hne]
   have HM:=zH hne
   clear hne hlen'
   generalize hn : xs.length = n at *
   have HN:=zH hn
   clear hn
   go_enter Tryz.func77,Tryz.ntmps77
   go_wp2
   go_loopw [13] (fun i wr => ∃ k : Nat,k ≤ n ∧ i = .int .i64 k ∧ xs.take k = ys.take k ∧ Below w.heap.size w wr) (fun i _ => n - (intOf i).toNat)
   case atStart => exact ⟨0,Nat.zero_le _,rfl,by simp,Below.refl _ _⟩
   case round =>
    obtain ⟨k,hk,rfl,hall,hbw⟩:=hrel
    have HA:=zH hall
    clear hall
    by_cases hlt : k < n
    · have hx:=List.getElem?_eq_getElem (l:=xs) (i:=k) (by rw [HN.out]; exact hlt)
      have hy:=List.getElem?_eq_getElem (l:=ys) (i:=k) (by rw [← HM.out]; exact hlt)
      generalize xs[k]'(by rw [HN.out]; exact hlt) = x at hx
      generalize ys[k]'(by rw [← HM.out]; exact hlt) = y at hy
      obtain ⟨b,off,rfl,hb,hcell⟩:=HP.out k x hx
      obtain ⟨b',off',rfl,hb',hcell'⟩:=HQ.out k y hy
      have HX:=zH hx
      have HY:=zH hy
      clear hx hy
      have h0:=(hbw.cell (p:=⟨b,off + (k * 1 + 0),none⟩) hb).trans (hcell 0 _ rfl)
      have g0:=(hbw.cell (p:=⟨b',off' + (k * 1 + 0),none⟩) hb').trans (hcell' 0 _ rfl)
      simp only [Nat.add_zero,Nat.mul_one] at h0 g0
      clear hcell hcell'
      cases he : (x == y)
      · have hr : r = false:=by
         rw [← HR.out,decide_eq_false_iff_not]
         intro e
         subst e
         have e2:=HX.out.symm.trans HY.out
         rw [Option.some.injEq] at e2
         rw [beq_iff_eq.2 e2] at he
         cases he
        subst hr
        clear HX HY
        have hl1 : (x == y) = false:=he
        have hl2 : (x != y) = true:=by unfold bne; rw [hl1]; rfl
        clear he
        all_goals
         go_wp2
         go_quiet (fail)
         go_wp2
         go_ret
         exact ⟨rfl,below_drewN hbw _⟩
      · have HE:=zH he
        have hl1 : (x == y) = true:=he
        have hl2 : (x != y) = false:=by unfold bne; rw [hl1]; rfl
        clear he
        go_wp2
        go_quiet (fail)
        go_wp2
        go_roundw
        case rel => exact ⟨k + 1,by omega,by go_num,take_eq_succ' HX.out (by rw [beq_iff_eq.1 HE.out]; exact HY.out) HA.out,below_drewN hbw _⟩
        case measure => simp [intOf]; omega
    · have : k = n:=by omega
      subst this
      go_wp2
      go_ret
      refine ⟨ret_bool ?_,hbw⟩
      rw [← HR.out,eq_comm,decide_eq_true_iff]
      exact take_all HN.out (HM.out.symm) HA.out
 · have hr : r = false:=by
    rw [← HR.out,decide_eq_false_iff_not]
    intro e; exact hne (by rw [e])
   subst hr
   have hd : ((xs.length : Int) == (ys.length : Int)) = false:=by simpa using fun e => hne (by exact_mod_cast e)
   have hd2 : ((xs.length : Int) != (ys.length : Int)) = true:=by simpa using fun e => hne (by exact_mod_cast e)
   have HR:=zH hne
   clear hne
   go_enter Tryz.func77,Tryz.ntmps77
   go_wp2
   go_ret
   exact ⟨rfl,Below.refl _ _⟩

set_option maxHeartbeats 800000 in
theorem IndexO_any (w : World) (v : Value) (L : List Bool) (h : RowE 1 encO w v L) : Calls Tryz.prog 55 #[v,.bool false] w fun e w' => e = .returned (.int .i64 (missF L)) ∧ Below w.heap.size w w' := by
 have hlen:=h.len
 unfold maxLen at hlen
 obtain ⟨A,c,rfl,hc,hm,hp⟩:=h
 have HHIT:=zH (fun (k : Nat) (h1 : ∀ y ∈ L.take k,(!y) = false) (h2 : L[k]? = some false) => (firstB_hit (p:=fun b => !b) (k:=0) h1 h2 rfl))
 have HEND:=zH (fun (h1 : ∀ y ∈ L,(!y) = false) => (firstB_none (p:=fun b => !b) (k:=0) h1))
 have HP:=zH hp
 obtain ⟨n,hn⟩ : ∃ n,L.length = n:=⟨_,rfl⟩
 have HN:=zH hn
 rw [hn] at hlen hc ⊢
 clear hp hm hn
 obtain ⟨r,hr⟩ : ∃ r,missF L = r:=⟨_,rfl⟩
 have HR:=zH hr
 rw [hr]
 clear hr
 go_enter Tryz.func55,Tryz.ntmps55
 go_wp2
 go_loopg [8] n (fun g i wr => ∃ k : Nat,k ≤ n ∧ g = n - k ∧ i = .int .i64 k ∧ (∀ y ∈ L.take k,(!y) = false) ∧ Below w.heap.size w wr)
 case atStart => exact ⟨0,Nat.zero_le _,rfl,rfl,by simp,Below.refl _ _⟩
 case round =>
  obtain ⟨k,hk,hgk,rfl,hall,hbw⟩:=hrel
  subst hgk
  have HA:=zH hall
  clear hall
  by_cases hlt : k < n
  · obtain ⟨x,hx⟩ : ∃ x,L[k]? = some x:=⟨_,List.getElem?_eq_getElem (by rw [HN.out]; exact hlt)⟩
    obtain ⟨b,off,e,hb,hcell⟩:=HP.out k x hx
    subst e
    have HX:=zH hx
    clear hx
    have h0:=(hbw.cell (p:=⟨b,off + (k * 1 + 0),none⟩) hb).trans (hcell 0 _ rfl)
    simp only [Nat.add_zero,Nat.mul_one] at h0
    clear hcell
    have hk0 : (0 : Int) ≤ (k : Int):=by omega
    have hk1 : (k : Int) < (n : Int):=by omega
    cases x
    · have HRE : Hid (r = (k : Int)):=zH (by rw [← HR.out]; exact (HHIT.out k HA.out HX.out).trans (by simp))
      go_wp2
      go_ret
      exact ⟨retI HRE.out.symm,hbw⟩
    · have HNX : Hid (∀ y ∈ L.take (k + 1),(!y) = false):=zH (fun y hy => by
       rw [List.take_add_one,HX.out] at hy
       rcases List.mem_append.1 hy with hy | hy
       · exact HA.out y hy
       · simp at hy; subst hy; rfl)
      go_wp2
      go_roundg (n - (k + 1))
      case measure => omega
      case rel => exact ⟨k + 1,by omega,rfl,by go_num,HNX.out,hbw⟩
  · have hke : n = k:=by omega
    subst hke
    have HRE : Hid (r = -1):=zH (by rw [← HR.out]; exact HEND.out (by have:=HA.out; rwa [List.take_of_length_le (by rw [HN.out]; exact Nat.le_refl _)] at this))
    go_wp2
    go_ret
    exact ⟨retI HRE.out.symm,hbw⟩

theorem withoutLoop_any (w : World) (iA : Option Addr) (il ic : Nat) (rA : Option Addr) (rl rc : Nat) (k : Int) : Calls Tryz.prog 53 #[.agg #[.slice iA il ic,.slice rA rl rc,.int .i64 k]] w fun e w' => e = .returned (.agg #[.slice iA il ic,.slice rA rl rc,.int .i64 (-1)]) ∧ Below w.heap.size w w' := by
 obtain ⟨Y,hY⟩ : ∃ Y,Y = (w.alloc (.cells #[.slice iA il ic,.slice rA rl rc,.int .i64 (-1)] 33)).alloc (.cells #[.slice none 0 0,.slice none 0 0,.int .i64 0] 33):=⟨_,rfl⟩
 have kB : Below w.heap.size w Y:=by rw [hY]; exact ((Below.refl w.heap.size w).alloc zN _).alloc (by simp) _
 have k1 : Blk Y w.heap.size 33 #[.slice iA il ic,.slice rA rl rc,.int .i64 (-1)]:=by rw [hY]; exact (Blk.new w _ _).alloc _
 have k2 : Blk Y (w.heap.size + 1) 33 #[.slice none 0 0,.slice none 0 0,.int .i64 0]:=by
  rw [hY]
  have h9:=Blk.new (w.alloc (.cells #[.slice iA il ic,.slice rA rl rc,.int .i64 (-1)] 33)) 33 #[.slice none 0 0,.slice none 0 0,.int .i64 0]
  rwa [show (w.alloc (.cells #[.slice iA il ic,.slice rA rl rc,.int .i64 (-1)] 33)).heap.size = w.heap.size + 1 by simp] at h9
 have z1 : Blk (Y.setRow (w.heap.size + 1) #[.slice iA il ic,.slice rA rl rc,.int .i64 (-1)]) (w.heap.size + 1) 33 #[.slice iA il ic,.slice rA rl rc,.int .i64 (-1)]:=setRow_heap _ _ _ _ _ _ k2
 have zB : Below w.heap.size w (Y.setRow (w.heap.size + 1) #[.slice iA il ic,.slice rA rl rc,.int .i64 (-1)]):=⟨kB.os,kB.tape,kB.output,by rw [size_setRow]; exact kB.size,fun k hk => (setRow_other _ _ _ _ (by omega)).trans (kB.block k hk)⟩
 have HK:=zH (And.intro k1 (And.intro k2 (And.intro z1 zB)))
 clear k1 k2 kB z1 zB
 go_enter Tryz.func53,Tryz.ntmps53
 go_upto_region 2 with (fail)
 rw [← hY]
 clear hY
 go_wp2_with (first
  | (refine wpList_load_row rfl 33 (.tmp 1) rfl w.heap.size rfl 33 #[.slice iA il ic,.slice rA rl rc,.int .i64 (-1)] (0,0) _ HK.out.1 Tryz.underlying33 rfl (by kernel_rfl) ?_)
  | (refine wpList_store_row rfl 33 (.tmp 2) (.tmp 4) rfl (w.heap.size + 1) #[.slice iA il ic,.slice rA rl rc,.int .i64 (-1)] rfl rfl 33 _ HK.out.2.1 (by kernel_rfl) rfl (by simp [Value.oneCell']) ?_))
 refine bodyPost_ret (results_cell_row (fn:=Tryz.f53) rfl _ _ (w.heap.size + 1) 33 #[.slice iA il ic,.slice rA rl rc,.int .i64 (-1)] (0,0) _ rfl HK.out.2.2.1 Tryz.underlying33 rfl (by kernel_rfl)) rfl ?_
 exact ⟨rfl,HK.out.2.2.2⟩
def watchV (V : CV) (g : Nat) (fv : Value) : CV := ⟨V.i,V.l,.slice none 0 0,.slice none 0 0,V.c,.slice (some ⟨g,0,none⟩) 1 1,fv,V.a,.slice none 0 0,.slice none 0 0⟩
theorem rowe_nilR {E : Type} {k : Nat} {enc : E → List Value} {w : World} : RowE k enc w (.slice none 0 0) ([] : List E) := RowE.nil w none 0 (by simp [maxLen])
theorem watch_in {w : World} {V : CV} {C : Circ} {g : Nat} {lv fv : Value} {ls fs : List Int} (h : C.In w V) (hg : Blk w g 22 #[lv]) (hl : RowE 1 encI w lv ls) (hf : RowE 1 encI w fv fs) : (watchC C ls fs).In w (watchV V g fv) :=
 ⟨h.i,h.l,rowe_nilR,rowe_nilR,h.c,⟨[lv],⟨_,_,rfl,Nat.le_refl _,by simp [maxLen],fun i z hz => ⟨g,0,rfl,hg.lt,fun j u hu => by
   match i,hz with
   | 0,hz =>
     simp at hz
     subst hz
     match j,hu with
     | 0,hu => simp at hu; subst hu; exact hg.cell 0⟩⟩,rfl,fun i u zs hu hz => by
   match i,hu,hz with
   | 0,hu,hz => simp [watchC] at hu hz; subst hu hz; exact hl⟩,hf,h.a,rowe_nilR,rowe_nilR⟩
set_option maxHeartbeats 1000000 in
set_option maxRecDepth 100000 in
theorem watching_any (w : World) (V : CV) (C : Circ) (lA : Option Addr) (ln lc : Nat) (fA : Option Addr) (fn fc : Nat) (h : C.In w V) :
 Calls Tryz.prog 16 #[V.val C.max,.slice lA ln lc,.slice fA fn fc] w fun e w' => ∃ g,e = .returned ((watchV V g (.slice fA fn fc)).val C.max) ∧ w.heap.size ≤ g ∧ Blk w' g 22 #[.slice lA ln lc] ∧ Below w.heap.size w w':=by
 obtain ⟨⟨Ai,ci,ei,_⟩,⟨Al,cl,el,_⟩,_,_,⟨Ac,cc,ec,_⟩,_,_,⟨Aa,ca,ea,_⟩,_,_⟩:=h
 obtain ⟨Vi,Vl,Vo,Vb,Vc,Vj,Vf,Va,Vs,Vt⟩:=V
 simp only at ei el ec ea
 obtain ⟨m,hm⟩ : ∃ m,C.max = m:=⟨_,rfl⟩
 subst ei el ec ea
 obtain ⟨ni,hni⟩ : ∃ k,C.inputs.length = k:=⟨_,rfl⟩
 obtain ⟨nl,hnl⟩ : ∃ k,C.latches.length = k:=⟨_,rfl⟩
 obtain ⟨nc,hnc⟩ : ∃ k,C.constraints.length = k:=⟨_,rfl⟩
 obtain ⟨na,hna⟩ : ∃ k,C.ands.length = k:=⟨_,rfl⟩
 rw [hni,hnl,hnc,hna]
 rw [hm]
 clear hm hni hnl hnc hna
 have h1:=Blk.new w 29 #[.int .i64 m,.slice Ai ni ci,.slice Al nl cl,Vo,Vb,.slice Ac nc cc,Vj,Vf,.slice Aa na ca,Vs,Vt]
 obtain ⟨c0,c1,c2,c3,c4,c5,c6,c7,c8,c9,c10⟩:=rbox_of h1
 clear h1
 obtain ⟨Z,hZ⟩ : ∃ Z,Z = (((w.alloc (.cells #[.int .i64 m,.slice Ai ni ci,.slice Al nl cl,Vo,Vb,.slice Ac nc cc,Vj,Vf,.slice Aa na ca,Vs,Vt] 29)).alloc (.cells #[.int .i64 m,.slice Ai ni ci,.slice Al nl cl,.slice none 0 0,.slice none 0 0,.slice Ac nc cc,.slice (some ⟨w.heap.size + 1 + 1,0,none⟩) 1 1,.slice fA fn fc,.slice Aa na ca,.slice none 0 0,.slice none 0 0] 29)).alloc (.cells #[.slice lA ln lc] 22)):=⟨_,rfl⟩
 have zB : Below w.heap.size w Z:=by rw [hZ]; exact (((Below.refl w.heap.size w).alloc zN _).alloc (by simp) _).alloc (by simp; omega) _
 have z1 : Blk Z (w.heap.size + 1) 29 #[.int .i64 m,.slice Ai ni ci,.slice Al nl cl,.slice none 0 0,.slice none 0 0,.slice Ac nc cc,.slice (some ⟨w.heap.size + 1 + 1,0,none⟩) 1 1,.slice fA fn fc,.slice Aa na ca,.slice none 0 0,.slice none 0 0]:=by
  rw [hZ]
  have h9:=(Blk.new (w.alloc (.cells #[.int .i64 m,.slice Ai ni ci,.slice Al nl cl,Vo,Vb,.slice Ac nc cc,Vj,Vf,.slice Aa na ca,Vs,Vt] 29)) 29 #[.int .i64 m,.slice Ai ni ci,.slice Al nl cl,.slice none 0 0,.slice none 0 0,.slice Ac nc cc,.slice (some ⟨w.heap.size + 1 + 1,0,none⟩) 1 1,.slice fA fn fc,.slice Aa na ca,.slice none 0 0,.slice none 0 0]).alloc (.cells #[.slice lA ln lc] 22)
  rwa [show (w.alloc (.cells #[.int .i64 m,.slice Ai ni ci,.slice Al nl cl,Vo,Vb,.slice Ac nc cc,Vj,Vf,.slice Aa na ca,Vs,Vt] 29)).heap.size = w.heap.size + 1 by simp] at h9
 have z2 : Blk Z (w.heap.size + 1 + 1) 22 #[.slice lA ln lc]:=by
  rw [hZ]
  have h9:=Blk.new ((w.alloc (.cells #[.int .i64 m,.slice Ai ni ci,.slice Al nl cl,Vo,Vb,.slice Ac nc cc,Vj,Vf,.slice Aa na ca,Vs,Vt] 29)).alloc (.cells #[.int .i64 m,.slice Ai ni ci,.slice Al nl cl,.slice none 0 0,.slice none 0 0,.slice Ac nc cc,.slice (some ⟨w.heap.size + 1 + 1,0,none⟩) 1 1,.slice fA fn fc,.slice Aa na ca,.slice none 0 0,.slice none 0 0] 29)) 22 #[.slice lA ln lc]
  rwa [show ((w.alloc (.cells #[.int .i64 m,.slice Ai ni ci,.slice Al nl cl,Vo,Vb,.slice Ac nc cc,Vj,Vf,.slice Aa na ca,Vs,Vt] 29)).alloc (.cells #[.int .i64 m,.slice Ai ni ci,.slice Al nl cl,.slice none 0 0,.slice none 0 0,.slice Ac nc cc,.slice (some ⟨w.heap.size + 1 + 1,0,none⟩) 1 1,.slice fA fn fc,.slice Aa na ca,.slice none 0 0,.slice none 0 0] 29)).heap.size = w.heap.size + 1 + 1 by simp] at h9
 have HK:=zH (And.intro z1 (And.intro z2 zB))
 clear z1 z2 zB
 go_enter Tryz.func16,Tryz.ntmps16
 go_wp2
 rw [← hZ]
 refine bodyPost_ret (results_cell_row (fn:=Tryz.f16) rfl _ _ (w.heap.size + 1) 29 #[.int .i64 m,.slice Ai ni ci,.slice Al nl cl,.slice none 0 0,.slice none 0 0,.slice Ac nc cc,.slice (some ⟨w.heap.size + 1 + 1,0,none⟩) 1 1,.slice fA fn fc,.slice Aa na ca,.slice none 0 0,.slice none 0 0] (0,0) _ rfl HK.out.1 Tryz.underlying29 rfl (by kernel_rfl)) rfl ?_
 exact ⟨w.heap.size + 1 + 1,rfl,by omega,HK.out.2.1,HK.out.2.2⟩

theorem wrong_no {C : Circ} {st : List Bool} {q : Nat} {z : Tri} {y : Bool} (hz : C.latches[q]? = some z) (hy : st[q]? = some y) (h : startP (z,y) = false) (ha : ((C.latches.zip st).take q).all startP = true) : wrongF C st = (q : Int) := by
 have h2 : (C.latches.zip st)[q]? = some (z,y):=by rw [List.getElem?_zip_eq_some]; exact ⟨hz,hy⟩
 have:=firstB_hit (p:=fun p => !startP p) (k:=0) (fun p hp => by simp [List.all_eq_true.1 ha p hp]) h2 (by simp [h])
 rw [Nat.zero_add] at this
 exact this
theorem wrong_end {C : Circ} {st : List Bool} {n : Nat} (hn : C.latches.length = n) (ha : ((C.latches.zip st).take n).all startP = true) : wrongF C st = -1 := by
 rw [List.take_of_length_le (by rw [List.length_zip,hn]; exact Nat.min_le_left _ _)] at ha
 exact firstB_none (fun p hp => by simp [List.all_eq_true.1 ha p hp])
set_option maxHeartbeats 4000000 in
set_option maxRecDepth 100000 in
theorem firstWrong_any (w : World) (V : CV) (C : Circ) (sv : Value) (st : List Bool) (h : C.In w V) (hrt : Right C) (hls : st.length = C.latches.length) (hs : RowE 1 encO w sv st) :
 Calls Tryz.prog 37 #[V.val C.max,sv] w fun e w' => e = .returned (.int .i64 (wrongF C st)) ∧ Below w.heap.size w w':=by
 have HLA : Hid (∀ z ∈ C.latches,2 ≤ z.1 ∧ (z.2.2 = 0 ∨ z.2.2 = 1 ∨ z.2.2 = z.1)):=zH (fun z hz => by have:=hrt.l z hz; exact ⟨this.1.1,this.2.2⟩)
 have hnl:=hrt.nl
 have hRL:=h.l
 have hRS:=hs
 obtain ⟨AL,cL,eL,hkl,hml,rL⟩:=hRL
 have hall : ∀ wz,Below (w.alloc (.cells (V.cells C.max) 29)).heap.size (w.alloc (.cells (V.cells C.max) 29)) wz → Blk wz w.heap.size 29 (V.cells C.max) ∧ C.In wz V ∧ RowE 1 encO wz sv st ∧ Below w.heap.size w wz:=fun wz hb => by
  have h1 : Below w.heap.size w wz:=((Below.refl w.heap.size w).alloc zN _).trans (hb.mono (by simp))
  exact ⟨(Blk.new w _ _).below hb (by simp),h.below h1,hs.below h1,h1⟩
 have HX : Hid (Below (w.alloc (.cells (V.cells C.max) 29)).heap.size (w.alloc (.cells (V.cells C.max) 29)) (w.alloc (.cells (V.cells C.max) 29))):=zH (Below.refl _ _)
 obtain ⟨Vi,Vl,Vo,Vb,Vc,Vj,Vf,Va,Vs,Vt⟩:=V
 obtain ⟨m,hmm⟩ : ∃ m,C.max = m:=⟨_,rfl⟩
 simp only at eL
 subst eL
 rw [hmm] at hall HX
 rw [hmm]
 obtain ⟨sA,sc,rfl,_,_,rS⟩:=hRS
 have HALL:=zH hall
 have HRL:=zH rL
 have HRS:=zH rS
 have HNO:=zH (fun (q : Nat) (z : Tri) (y : Bool) (a : C.latches[q]? = some z) (b : st[q]? = some y) => wrong_no a b)
 have HYES:=zH (fun (q : Nat) (z : Tri) (y : Bool) (a : C.latches[q]? = some z) (b : st[q]? = some y) => start_yes a b)
 have HEND:=zH (fun (n : Nat) (a : C.latches.length = n) => wrong_end (st:=st) a)
 clear hall hmm h hrt hs rL rS hml
 obtain ⟨n,hn⟩ : ∃ n,C.latches.length = n:=⟨_,rfl⟩
 have HN:=zH hn
 have HLS:=zH (hls.trans hn)
 rw [hls,hn] at HALL
 rw [hls]
 rw [hn] at hnl hkl HX
 rw [hn]
 clear hls hn
 obtain ⟨c0,c1,c2,c3,c4,c5,c6,c7,c8,c9,c10⟩:=rbox_of (HALL.out _ HX.out).1
 generalize hWF : wrongF C st = r at *
 have HWF:=zH hWF
 clear hWF
 go_enter Tryz.func37,Tryz.ntmps37
 go_wp2
 go_loopg [10] n (fun k j wx => ∃ q : Nat,q ≤ n ∧ k = n - q ∧ j = .int .i64 q ∧ ((C.latches.zip st).take q).all startP = true ∧ Below (w.alloc (.cells #[.int .i64 m,Vi,.slice AL n cL,Vo,Vb,Vc,Vj,Vf,Va,Vs,Vt] 29)).heap.size (w.alloc (.cells #[.int .i64 m,Vi,.slice AL n cL,Vo,Vb,Vc,Vj,Vf,Va,Vs,Vt] 29)) wx)
 case atStart => exact ⟨0,Nat.zero_le _,rfl,rfl,rfl,HX.out⟩
 case round =>
  obtain ⟨q,hq,hgk,rfl,hal,hbw⟩:=hrel
  subst hgk
  have HAL:=zH hal
  have HBW:=zH hbw
  clear hal hbw c0 c1 c2 c3 c4 c5 c6 c7 c8 c9 c10
  by_cases hlt : q < n
  · obtain ⟨z,hz⟩ : ∃ z,C.latches[q]? = some z:=⟨_,List.getElem?_eq_getElem (by rw [HN.out]; exact hlt)⟩
    obtain ⟨y,hy⟩ : ∃ y,st[q]? = some y:=⟨_,List.getElem?_eq_getElem (by rw [HLS.out]; exact hlt)⟩
    obtain ⟨b,off,e,hb,hcell⟩:=HRL.out q z hz
    subst e
    obtain ⟨b2,off2,e,hb2,hcell2⟩:=HRS.out q y hy
    subst e
    have HZ:=zH (HLA.out z (List.mem_of_getElem? hz))
    have HN0:=zH (HNO.out q z y hz hy)
    have HY0:=zH (HYES.out q z y hz hy)
    obtain ⟨z0,z1,z2⟩:=z
    have hbl:=(HALL.out _ HBW.out).2.2.2
    have h0:=(hbl.cell (p:=⟨b,off + (q * 3 + 0),none⟩) hb).trans (hcell 0 _ rfl)
    have h1:=(hbl.cell (p:=⟨b,off + (q * 3 + 1),none⟩) hb).trans (hcell 1 _ rfl)
    have h2:=(hbl.cell (p:=⟨b,off + (q * 3 + 2),none⟩) hb).trans (hcell 2 _ rfl)
    have hbX : Below w.heap.size w ((wr.alloc (.cells #[.int .i64 z0,.int .i64 z1,.int .i64 z2] 46)).drew):=(hbl.alloc hbl.size _).drew
    have h3:=(hbX.cell (p:=⟨b2,off2 + (q * 1 + 0),none⟩) hb2).trans (hcell2 0 _ rfl)
    have hnb : Blk ((wr.alloc (.cells #[.int .i64 z0,.int .i64 z1,.int .i64 z2] 46)).drew) wr.heap.size 46 #[.int .i64 z0,.int .i64 z1,.int .i64 z2]:=(Blk.new wr _ _).drew
    have y0:=hnb.cell 0
    have y2:=hnb.cell 2
    simp only [List.getElem?_toArray,List.getElem?_cons_zero,List.getElem?_cons_succ] at y0 y2
    simp only [Nat.mul_one,Nat.add_zero,← Nat.add_assoc] at h0 h1 h2 h3
    have HXA : Hid (Below (w.alloc (.cells #[.int .i64 m,Vi,.slice (some ⟨b,off,none⟩) n cL,Vo,Vb,Vc,Vj,Vf,Va,Vs,Vt] 29)).heap.size (w.alloc (.cells #[.int .i64 m,Vi,.slice (some ⟨b,off,none⟩) n cL,Vo,Vb,Vc,Vj,Vf,Va,Vs,Vt] 29)) ((wr.alloc (.cells #[.int .i64 z0,.int .i64 z1,.int .i64 z2] 46)).drew)):=zH ((HBW.out.alloc HBW.out.size _).drew)
    have hql : (q : Int) < (n : Int):=by omega
    have hql0 : (0 : Int) ≤ (q : Int):=by omega
    clear hcell hcell2 hz hy hbl hbX hnb
    obtain ⟨hz0,hzr⟩:=HZ.out
    simp only at hz0 hzr
    have hcases : (startP ((z0,z1,z2),y) = true ∧ (z2 = z0 ∨ (z2 ≠ z0 ∧ z2 = 0 ∧ y = false) ∨ (z2 ≠ z0 ∧ z2 = 1 ∧ y = true))) ∨ (startP ((z0,z1,z2),y) = false ∧ z2 ≠ z0 ∧ ((z2 = 0 ∧ y = true) ∨ (z2 = 1 ∧ y = false))):=by
     rcases hzr with rfl | rfl | rfl
     · have h5 : ¬ (0 = z0):=by omega
       cases y
       · exact .inl ⟨by simp [startP],.inr (.inl ⟨h5,rfl,rfl⟩)⟩
       · exact .inr ⟨by simp [startP,h5],h5,.inl ⟨rfl,rfl⟩⟩
     · have h5 : ¬ (1 = z0):=by omega
       cases y
       · exact .inr ⟨by simp [startP,h5],h5,.inr ⟨rfl,rfl⟩⟩
       · exact .inl ⟨by simp [startP],.inr (.inr ⟨h5,rfl,rfl⟩)⟩
     · exact .inl ⟨by simp [startP],.inl rfl⟩
    clear hz0 hzr
    rcases hcases with ⟨hp,hc⟩ | ⟨hp,hne,hc⟩
    · have HNX:=zH (HY0.out hp HAL.out)
      clear hp
      rcases hc with rfl | ⟨hne,rfl,rfl⟩ | ⟨hne,rfl,rfl⟩
      · go_upto_region 4 with (fail)
        go_region
        go_wp2
        go_roundg (n - (q + 1))
        case measure => omega
        case rel => exact ⟨q + 1,by omega,rfl,by go_num,HNX.out,HXA.out⟩
      · have h7 : ((0 : Int) != z0) = true:=by simpa using hne
        clear hne
        go_upto_region 4 with (fail)
        go_region
        go_wp2
        go_roundg (n - (q + 1))
        case measure => omega
        case rel => exact ⟨q + 1,by omega,rfl,by go_num,HNX.out,HXA.out⟩
      · have h7 : ((1 : Int) != z0) = true:=by simpa using hne
        clear hne
        go_upto_region 4 with (fail)
        go_region
        go_wp2
        go_roundg (n - (q + 1))
        case measure => omega
        case rel => exact ⟨q + 1,by omega,rfl,by go_num,HNX.out,HXA.out⟩
    · have HR:=zH (HN0.out hp HAL.out)
      clear hp
      rcases hc with ⟨rfl,rfl⟩ | ⟨rfl,rfl⟩
      · have h7 : ((0 : Int) != z0) = true:=by simpa using hne
        clear hne
        go_upto_region 4 with (fail)
        go_region
        go_wp2
        go_ret
        exact ⟨retI HR.out.symm,(HALL.out _ HXA.out).2.2.2⟩
      · have h7 : ((1 : Int) != z0) = true:=by simpa using hne
        clear hne
        go_upto_region 4 with (fail)
        go_region
        go_wp2
        go_ret
        exact ⟨retI HR.out.symm,(HALL.out _ HXA.out).2.2.2⟩
  · have hqe : n = q:=by omega
    subst hqe
    have HR:=zH (HEND.out _ HN.out HAL.out)
    clear hlt hq
    go_wp2
    go_ret
    exact ⟨retI HR.out.symm,(HALL.out _ HBW.out).2.2.2⟩

abbrev walkCells (V : CV) (m : Int) (U : TV) (k : Int) (sv cv : Value) : Array Value := #[.int .i64 m,V.i,V.l,V.o,V.b,V.c,V.j,V.f,V.a,V.s,V.t,U.i,U.r,.int .i64 k,sv,cv]
theorem posOf_one (n p : Nat) : (posOf n (-1,(p : Int))).toNat = p + n := by unfold posOf; rw [if_pos rfl]; omega
theorem posOf_two (n p : Nat) : (posOf n (0,(p : Int))).toNat = p := by unfold posOf; rw [if_neg (by simp)]; omega
theorem seeF_step {n : Nat} {sp : List (Int × Int)} {k : Nat} {s : Int × Int} (h : sp[k]? = some s) (L : List Bool) : seeF n (sp.take (k + 1)) L = (seeF n (sp.take k) L).set (posOf n s).toNat true := by
 rw [List.take_add_one,h]
 exact seeF_snoc n _ s L
set_option maxHeartbeats 4000000 in
set_option maxRecDepth 100000 in
theorem see_any (w2 wx : World) (V : CV) (m : Int) (U : TV) (k : Int) (sv : Value) (L : List Bool) (g N : Nat) (lA : Option Addr) (nl lc gj : Nat) (x : MV) (fs : List (Int × Int))
 (hV : V.j = .slice (some ⟨gj,0,none⟩) 1 1) (hj : Blk w2 gj 22 #[.slice lA nl lc]) (hb : Below w2.heap.size w2 wx) (ht : Tab wx g L) (hg : w2.heap.size ≤ g) (hL : L.length = N) (hN : N ≤ 100000) (hf : RowE 2 encQ w2 x.f fs)
 (hp : ∀ s ∈ fs,(s.1 = 0 ∧ 0 ≤ s.2 ∧ s.2 < (N : Int)) ∨ (s.1 = -1 ∧ 0 ≤ s.2 ∧ s.2 + (nl : Int) < (N : Int))) :
 Calls Tryz.prog 38 #[.agg (walkCells V m U k sv (.slice (some ⟨g,0,none⟩) N N)),.agg #[x.s,.bool x.h,x.b,x.f]] wx fun e w' => e = .returned (.tuple #[]) ∧ Below w2.heap.size w2 w' ∧ Tab w' g (seeF nl fs L):=by
 have hgl:=ht.lt
 obtain ⟨Vi,Vl,Vo,Vb,Vc,Vj,Vf,Va,Vs,Vt⟩:=V
 obtain ⟨Ui,Ur⟩:=U
 obtain ⟨xs,xh,xb,xf⟩:=x
 simp only at hV hf
 subst hV
 have hfm:=hf.len
 unfold maxLen at hfm
 obtain ⟨fA,fc,rfl,hfl,_,hfr⟩:=hf
 obtain ⟨W1,hW1⟩ : ∃ W1,W1 = (wx.alloc (.cells #[.int .i64 m,Vi,Vl,Vo,Vb,Vc,.slice (some ⟨gj,0,none⟩) 1 1,Vf,Va,Vs,Vt,Ui,Ur,.int .i64 k,sv,.slice (some ⟨g,0,none⟩) N N] 53)).alloc (.cells #[xs,.bool xh,xb,.slice fA fs.length fc] 62):=⟨_,rfl⟩
 have k0 : Below w2.heap.size w2 W1:=by rw [hW1]; exact (hb.alloc hb.size _).alloc (by have:=hb.size; simp; omega) _
 have k1 : Blk W1 wx.heap.size 53 #[.int .i64 m,Vi,Vl,Vo,Vb,Vc,.slice (some ⟨gj,0,none⟩) 1 1,Vf,Va,Vs,Vt,Ui,Ur,.int .i64 k,sv,.slice (some ⟨g,0,none⟩) N N]:=by rw [hW1]; exact (Blk.new wx _ _).alloc _
 have k2 : Blk W1 (wx.heap.size + 1) 62 #[xs,.bool xh,xb,.slice fA fs.length fc]:=by
  rw [hW1]
  have h9:=Blk.new (wx.alloc (.cells #[.int .i64 m,Vi,Vl,Vo,Vb,Vc,.slice (some ⟨gj,0,none⟩) 1 1,Vf,Va,Vs,Vt,Ui,Ur,.int .i64 k,sv,.slice (some ⟨g,0,none⟩) N N] 53)) 62 #[xs,.bool xh,xb,.slice fA fs.length fc]
  rwa [show (wx.alloc (.cells #[.int .i64 m,Vi,Vl,Vo,Vb,Vc,.slice (some ⟨gj,0,none⟩) 1 1,Vf,Va,Vs,Vt,Ui,Ur,.int .i64 k,sv,.slice (some ⟨g,0,none⟩) N N] 53)).heap.size = wx.heap.size + 1 by simp] at h9
 have k3 : Tab W1 g L:=by rw [hW1]; exact Blk.alloc (Blk.alloc ht _) _
 have HK:=zH (And.intro k0 (And.intro k1 (And.intro k2 k3)))
 have HFR:=zH hfr
 have HJ:=zH hj
 have HP:=zH hp
 obtain ⟨nf,hnf⟩ : ∃ nf,fs.length = nf:=⟨_,rfl⟩
 rw [hnf] at hfm hfl HK hW1
 rw [hnf]
 have HNF:=zH hnf
 have HLN:=zH hL
 have HGG:=zH (And.intro hg hgl)
 have d3:=HK.out.2.2.1.cell 3
 simp only [List.getElem?_toArray,List.getElem?_cons_zero,List.getElem?_cons_succ] at d3
 clear k0 k1 k2 k3 hfr hj hb ht hp hnf hL hg hgl
 go_enter Tryz.func38,Tryz.ntmps38
 go_upto_region 1 with (fail)
 rw [← hW1]
 clear hW1
 go_wp2
 go_loopg [10] nf (fun z iv wr => ∃ q : Nat,q ≤ nf ∧ z = nf - q ∧ iv = .int .i64 q ∧ Below w2.heap.size w2 wr ∧ Blk wr wx.heap.size 53 #[.int .i64 m,Vi,Vl,Vo,Vb,Vc,.slice (some ⟨gj,0,none⟩) 1 1,Vf,Va,Vs,Vt,Ui,Ur,.int .i64 k,sv,.slice (some ⟨g,0,none⟩) N N] ∧ Tab wr g (seeF nl (fs.take q) L))
 case atStart => exact ⟨0,Nat.zero_le _,rfl,rfl,HK.out.1,HK.out.2.1,HK.out.2.2.2⟩
 case round =>
  obtain ⟨q,hq,hgk,rfl,hbw,hbx,htb⟩:=hrel
  subst hgk
  clear d3
  have HB:=zH hbw
  have HX:=zH hbx
  have HT:=zH htb
  clear hbw hbx htb
  by_cases hlt : q < nf
  · obtain ⟨s,hs⟩ : ∃ s,fs[q]? = some s:=⟨_,List.getElem?_eq_getElem (by rw [HNF.out]; exact hlt)⟩
    obtain ⟨b,off,e,hbb,hcell⟩:=HFR.out q s hs
    subst e
    have HST:=zH (seeF_step (n:=nl) hs L)
    have hps:=HP.out s (List.mem_of_getElem? hs)
    obtain ⟨a,p0⟩:=s
    have r0:=(HB.out.cell (p:=⟨b,off + (q * 2 + 0),none⟩) hbb).trans (hcell 0 _ rfl)
    have r1:=(HB.out.cell (p:=⟨b,off + (q * 2 + 1),none⟩) hbb).trans (hcell 1 _ rfl)
    simp only [Nat.add_zero,← Nat.add_assoc] at r0 r1
    have hq0 : (0 : Int) ≤ (q : Int):=by omega
    have hq1 : (q : Int) < (nf : Int):=by omega
    clear hcell hs
    have hsl : (seeF nl (fs.take q) L).length = N:=by rw [seeF_len]; exact HLN.out
    simp only at hps
    obtain ⟨p,hp⟩ : ∃ p : Nat,p0 = (p : Int):=⟨p0.toNat,by omega⟩
    subst hp
    obtain ⟨X,hX⟩ : ∃ X,X = wr.alloc (.cells #[.int .i64 a,.int .i64 (p : Int)] 114):=⟨_,rfl⟩
    have e0 : Below w2.heap.size w2 X:=by rw [hX]; exact HB.out.alloc HB.out.size _
    have e1:=HX.out.alloc (.cells #[.int .i64 a,.int .i64 (p : Int)] 114)
    have e2:=Blk.alloc HT.out (.cells #[.int .i64 a,.int .i64 (p : Int)] 114)
    rw [← hX] at e1 e2
    have e2 : Tab X g (seeF nl (fs.take q) L):=e2
    have e3 : Blk X wr.heap.size 114 #[.int .i64 a,.int .i64 (p : Int)]:=by rw [hX]; exact Blk.new wr _ _
    have s0:=e3.cell 0
    have s1:=e3.cell 1
    have c6:=e1.cell 6
    have c15:=e1.cell 15
    have cj:=(e0.cell (p:=⟨gj,0,none⟩) HJ.out.lt).trans (HJ.out.cell 0)
    simp only [List.getElem?_toArray,List.getElem?_cons_zero,List.getElem?_cons_succ] at s0 s1 c6 c15 cj
    have HE:=zH (And.intro e0 (And.intro e1 e2))
    have hfz : ∀ i,X.frozen? ⟨g,i,none⟩ = false:=fun i => Blk.frozen e2 i
    have hcg : ∀ i,i < N → ∃ y,X.cell? ⟨g,i,none⟩ = some (.bool y):=fun i hi => ⟨_,e2.cell (getD_bool (by rw [hsl]; exact hi))⟩
    have HCG:=zH (And.intro hfz hcg)
    clear e0 e1 e2 e3 hsl hfz hcg
    go_upto_region 4 with (fail)
    rw [← hX]
    clear hX r0 r1
    rcases hps with ⟨rfl,h1,h2⟩ | ⟨rfl,h1,h2⟩
    · have hb9 : ((0 : Int) == -1) = false:=by decide
      have hpN : p < N:=by omega
      have hpN2 : (p : Int) < (N : Int):=by omega
      obtain ⟨y,hcy⟩:=HCG.out.2 p hpN
      have hfy:=HCG.out.1 p
      go_wp2
      go_roundg (nf - (q + 1))
      case measure => omega
      case rel =>
       refine ⟨q + 1,by omega,rfl,by go_num,below_set HE.out.1 HGG.out.1 _ _,Blk.far HE.out.2.1 (by have:=HGG.out.2; simp; omega) _,?_⟩
       rw [HST.out,posOf_two]
       exact Tab.set_ HE.out.2.2 _ _
    · have hb9 : ((-1 : Int) == -1) = true:=by decide
      have hpN : p + nl < N:=by omega
      have hw9 : IntKind.i64.wrap ((p : Int) + (nl : Int)) = ((p + nl : Nat) : Int):=by rw [IntKind.wrap_i64] <;> omega
      have hpN2 : ((p + nl : Nat) : Int) < (N : Int):=by omega
      have hpN3 : (0 : Int) ≤ ((p + nl : Nat) : Int):=by omega
      obtain ⟨y,hcy⟩:=HCG.out.2 (p + nl) hpN
      have hfy:=HCG.out.1 (p + nl)
      go_wp2
      go_roundg (nf - (q + 1))
      case measure => omega
      case rel =>
       refine ⟨q + 1,by omega,rfl,by go_num,below_set HE.out.1 HGG.out.1 _ _,Blk.far HE.out.2.1 (by have:=HGG.out.2; simp; omega) _,?_⟩
       rw [HST.out,posOf_one]
       exact Tab.set_ HE.out.2.2 _ _
  · have hqe : nf = q:=by omega
    subst hqe
    have hend:=HT.out
    rw [List.take_of_length_le (by rw [HNF.out]; exact Nat.le_refl _)] at hend
    have HEND:=zH hend
    clear hend hlt hq
    go_wp2
    go_end0
    exact ⟨rfl,HB.out,HEND.out⟩
end Go.Proofs.YtjbglgmbnjdhcaaGreat

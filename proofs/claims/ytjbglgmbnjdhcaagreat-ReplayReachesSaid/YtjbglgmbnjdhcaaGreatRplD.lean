import Derived.Test.YtjbglgmbnjdhcaaGreatRplC
import Derived.Test.YtjbglgmbnjdhcaaGreatRplQ
namespace Go.Proofs.YtjbglgmbnjdhcaaGreat
open Go.RowKit

section
variable {P : Program} {md : Region.Mode} {ops : Array Oper} {Q : Exit → Act → World → Prop} {S : World → Prop} {n : Nat}
theorem wpAnyT_twoR {i j fuel : Nat} {listed : Array Bool} {a : Act} {w : World} (hr : Region.ready md ops listed = [i,j])
 (h1 : wpOp P ops Q i (fun a' w' => (i < n → S w') ∧ wpAnyT P md ops Q S n fuel (listed.setIfInBounds i true) a' w') a w)
 (h2 : wpOp P ops Q j (fun a' w' => (j < n → S w') ∧ wpAnyT P md ops Q S n fuel (listed.setIfInBounds j true) a' w') a w) : wpAnyT P md ops Q S n (fuel + 1) listed a w:=by
 refine ⟨fun h0 => (by rw [hr] at h0; cases h0),fun x hx => ?_⟩
 rw [hr] at hx
 simp only [List.mem_cons,List.not_mem_nil,or_false] at hx
 rcases hx with rfl | rfl
 · exact h1
 · exact h2
theorem wpOpTR {i fuel : Nat} {o : Oper} {listed : Array Bool} {a : Act} {w : World} (ho : ops[i]? = some o)
 (h : ∀ K' : Act → World → Prop,Shut (∀ a w,(i < n → S w) → wpAnyT P md ops Q S n fuel (listed.setIfInBounds i true) a w → K' a w) → if Region.wanted o (yielded ops a.tmps) = true then Oper.wp P o a w K' Q else K' (a.put o.dst undef) w) :
 wpOp P ops Q i (fun a' w' => (i < n → S w') ∧ wpAnyT P md ops Q S n fuel (listed.setIfInBounds i true) a' w') a w :=
 wpOp_step ho (fun K' hK => h K' (fun a w hS hW => hK a w ⟨hS,hW⟩))
end

theorem retT {a b c d : Int} (h1 : a = c) (h2 : b = d) : Ending.returned (.tuple #[.int .i64 a,.int .i64 b]) = .returned (.tuple #[.int .i64 c,.int .i64 d]) := by rw [h1,h2]
theorem box_new (w : World) : ∃ wb ba,wb = w.alloc (.cells zeroW 53) ∧ ba = w.heap.size ∧ Below w.heap.size w wb ∧ Blk wb ba 53 zeroW ∧ w.heap.size ≤ ba ∧ ∀ k,k < w.heap.size → wb.heap[k]? = w.heap[k]? :=
 ⟨_,_,rfl,rfl,(Below.refl _ _).alloc zN _,Blk.new _ _ _,Nat.le_refl _,fun k hk => Below.heap_alloc w _ k hk⟩
theorem box_newD (w : World) : ∃ wb ba,wb = (w.alloc (.cells zeroW 53)).drew ∧ ba = w.heap.size ∧ Below w.heap.size w wb ∧ Blk wb ba 53 zeroW ∧ w.heap.size ≤ ba :=
 ⟨_,_,rfl,rfl,((Below.refl _ _).alloc zN _).drew,(Blk.new _ _ _).drew,Nat.le_refl _⟩
def WalkP (w wx : World) (V : CV) (C : Circ) (ls fs : List Int) (lv fv : Value) (m : Int) (U : TV) (t : Tr) (lp : Int) (O : List Int) (fr ba n N : Nat) (rE : Int) : Prop :=
 Below w.heap.size w wx ∧ ∃ cs,Blk wx ba 53 cs ∧ (rE = 0 → ∃ gj gm xs g,cs = walkCells (watchV V gj fv) m U lp (.slice (some ⟨gm,0,none⟩) n n) (.slice (some ⟨g,0,none⟩) N N) ∧
  Blk wx gj 22 #[lv] ∧ MomB wx gm n xs ∧ Moms wx w.heap.size xs (momsG (watchC C ls fs) O t.init t.rows) ∧ Tab wx g (cameS (ls ++ fs) ((valsT C O t).drop fr)))
theorem walkP_of {w1 wc wk wq : World} {V : CV} {C : Circ} {ls fs : List Int} {lv fv : Value} {m : Int} {U : TV} {t : Tr} {lp : Int} {O : List Int} {fr ba n N gj : Nat} {rE : Int} {cs : Array Value}
 (hd : Below w1.heap.size w1 wq) (ha : Blk wq ba 53 zeroW) (hj : Blk wq gj 22 #[lv]) (hsc : w1.heap.size ≤ wc.heap.size) (hbg : w1.heap.size ≤ ba) (h3 : ba < wc.heap.size ∨ wk.heap.size ≤ ba) (h2 : ∀ k,k < wk.heap.size → k ≠ ba → wq.heap[k]? = wk.heap[k]?)
 (hy : (rE ≠ 0 → cs = zeroW) ∧ (rE = 0 → ∃ gm xs g,cs = walkCells (watchV V gj fv) m U lp (.slice (some ⟨gm,0,none⟩) n n) (.slice (some ⟨g,0,none⟩) N N) ∧ wc.heap.size ≤ gm ∧ MomB wk gm n xs ∧ Moms wk wc.heap.size xs (momsG (watchC C ls fs) O t.init t.rows) ∧ wc.heap.size ≤ g ∧ Tab wk g (cameS (ls ++ fs) ((valsT C O t).drop fr)))) :
 WalkP w1 (wq.setRow ba cs) V C ls fs lv fv m U t lp O fr ba n N rE:=by
 have hoth : ∀ k,k ≠ ba → (wq.setRow ba cs).heap[k]? = wq.heap[k]?:=fun k hk => setRow_other _ _ _ _ hk
 refine ⟨⟨hd.os,hd.tape,hd.output,by rw [size_setRow]; exact hd.size,fun k hk => (hoth k (by omega)).trans (hd.block k hk)⟩,cs,setRow_heap _ _ _ _ _ _ ha,fun h0 => ?_⟩
 obtain ⟨gm,xs,g,e,h5,h6,h7,h8,h9⟩:=hy.2 h0
 have hkey : ∀ k,wc.heap.size ≤ k → k < wk.heap.size → (wq.setRow ba cs).heap[k]? = wk.heap[k]?:=fun k hk1 hk2 => by
  have hne : k ≠ ba:=by omega
  exact (hoth k hne).trans (h2 k hk2 hne)
 refine ⟨gj,gm,xs,g,e,(hoth gj (Blk.ne_ hj ha (by decide))).trans hj,h6.turn (hkey _ h5 h6.lt),?_,(hkey _ h8 h9.lt).trans h9⟩
 have h10:=h7.turn hkey
 exact ⟨h10.len,fun i x m hx hm => by
  have h11:=h10.at_ i x m hx hm
  exact ⟨own_le h11.s hsc,h11.h,own_le h11.b hsc,own_le h11.f hsc⟩,h10.apart⟩
set_option maxHeartbeats 8000000 in
set_option maxRecDepth 100000 in
theorem Bad_any (w : World) (V : CV) (C : Circ) (U : TV) (t : Tr) (a : Int) (O : List Int) (h : C.In w V) (ok : C.Ok) (ht : t.In w U) (hO : (checkR C).2 = 0 → IsOrd C O) :
 Calls Tryz.prog 24 #[V.val C.max,.int .i64 a,U.val t.loop] w fun e w' => e = .returned (.tuple #[.int .i64 (badR C O a t).1,.int .i64 (badR C O a t).2]) ∧ Below w.heap.size w w':=by
 obtain ⟨ba0,be0,hbr0⟩ : ∃ x y,badR C O a t = (x,y):=⟨_,_,rfl⟩
 have HBR0:=zH hbr0
 rw [hbr0]
 simp only
 clear hbr0
 have HCH:=zH (fun (wx : World) (hb : Below w.heap.size w wx) => Check_any wx V C (h.below hb) ok)
 have HIN0:=zH (fun (wx : World) (hb : Below w.heap.size w wx) => And.intro (h.below hb) (ht.below hb))
 have HOK:=zH (And.intro ok hO)
 have hone:=And.intro (rowe_one h.i) (And.intro (rowe_one h.l) (And.intro (rowe_one h.c) (And.intro (rowe_one h.a) (rowe_one h.f))))
 have hbt:=h.b
 obtain ⟨bA,bc,eb,hbl,hbm,hbr⟩:=h.b
 obtain ⟨iA,ic,ei,_⟩:=ht.i
 obtain ⟨rA,rc,er,hrm,-⟩:=ht.r.at_
 obtain ⟨Vi,Vl,Vo,Vb,Vc,Vj,Vf,Va,Vs,Vt⟩:=V
 obtain ⟨Ui,Ur⟩:=U
 simp only at eb ei er hone hbt
 subst eb ei er
 obtain ⟨m,hmm⟩ : ∃ m,C.max = m:=⟨_,rfl⟩
 obtain ⟨n,hn⟩ : ∃ n,t.rows.length = n:=⟨_,rfl⟩
 obtain ⟨il,hil⟩ : ∃ n,t.init.length = n:=⟨_,rfl⟩
 obtain ⟨lp,hlp⟩ : ∃ lp,t.loop = lp:=⟨_,rfl⟩
 obtain ⟨bn,hbn⟩ : ∃ k,C.bads.length = k:=⟨_,rfl⟩
 rw [hmm,hbn] at HCH
 rw [hbn,hn,hil] at HIN0
 rw [hbn] at hbl
 rw [hmm,hn,hil,hlp,hbn]
 have HMM:=zH (And.intro hmm (And.intro hn (And.intro hlp hbn)))
 have HONE:=zH hone
 have HBT:=zH hbt
 have HBR:=zH hbr
 unfold maxLen at hbm hrm
 rw [hn] at hrm
 obtain ⟨r,hr⟩ : ∃ r,(checkR C).2 = r:=⟨_,rfl⟩
 rw [hr] at HCH
 have HR:=zH hr
 clear h ok ht hO hone hbt hbr hmm hn hil hlp hbn hr
 obtain ⟨W0,hW⟩ : ∃ W,W = (w.alloc (.cells #[.int .i64 m,Vi,Vl,Vo,.slice bA bn bc,Vc,Vj,Vf,Va,Vs,Vt] 29)).alloc (.cells #[.slice iA il ic,.slice rA n rc,.int .i64 lp] 33):=⟨_,rfl⟩
 have HALL : Hid (∀ wz,Below W0.heap.size W0 wz → Blk wz w.heap.size 29 #[.int .i64 m,Vi,Vl,Vo,.slice bA bn bc,Vc,Vj,Vf,Va,Vs,Vt] ∧ Blk wz (w.heap.size + 1) 33 #[.slice iA il ic,.slice rA n rc,.int .i64 lp] ∧ Below w.heap.size w wz):=zH (fun wz hb => by
  rw [hW] at hb
  have h1 : Below w.heap.size w wz:=(((Below.refl w.heap.size w).alloc zN _).alloc (by simp) _).trans (hb.mono (by simp; omega))
  have e1:=((Blk.new w 29 #[.int .i64 m,Vi,Vl,Vo,.slice bA bn bc,Vc,Vj,Vf,Va,Vs,Vt]).alloc (.cells #[.slice iA il ic,.slice rA n rc,.int .i64 lp] 33)).below hb (by simp; omega)
  have e2:=(Blk.new (w.alloc (.cells #[.int .i64 m,Vi,Vl,Vo,.slice bA bn bc,Vc,Vj,Vf,Va,Vs,Vt] 29)) 33 #[.slice iA il ic,.slice rA n rc,.int .i64 lp]).below hb (by simp)
  rw [show (w.alloc (.cells #[.int .i64 m,Vi,Vl,Vo,.slice bA bn bc,Vc,Vj,Vf,Va,Vs,Vt] 29)).heap.size = w.heap.size + 1 by simp] at e2
  exact ⟨e1,e2,h1⟩)
 have HX : Hid (Below W0.heap.size W0 W0):=zH (Below.refl _ _)
 obtain ⟨c0,c1,c2,c3,c4,c5,c6,c7,c8,c9,c10⟩:=rbox_of (HALL.out _ HX.out).1
 obtain ⟨d0,d1,d2⟩:=trio_of (HALL.out _ HX.out).2.1
 have HWW:=zH hW
 clear hW
 by_cases h0 : r = 0
 · subst h0
   have HB1 : Hid ((if a < 0 ∨ (bn : Int) ≤ a then ((0 : Int),(5 : Int)) else if (walkR C O (loopless t)).2 ≠ 0 then walkR C O (loopless t) else if cameS [C.bads.getD a.toNat 0] ((valsT C O t).drop (n - 1)) = [true] then ((n : Int) - 1,0) else ((n : Int) - 1,131)) = (ba0,be0)):=zH (by
    have h9:=HBR0.out
    unfold badR at h9
    rw [if_neg (by rw [HR.out]; simp),HMM.out.2.1,HMM.out.2.2.2] at h9
    exact h9)
   clear HBR0
   by_cases h1 : a < 0
   · have HE : Hid (0 = ba0 ∧ 5 = be0):=zH (by have h9:=HB1.out; rw [if_pos (.inl h1)] at h9; injection h9 with h8 h9; exact ⟨h8,h9⟩)
     go_enter Tryz.func24,Tryz.ntmps24
     go_upto_region 1 with (fail)
     rw [← HWW.out]
     go_wp2_with (go_at_call 14; refine (HCH.out _ (HALL.out _ HX.out).2.2).mono ?_; rintro e w1 ⟨rfl,hb⟩; have HXN:=zH (bt HX.out zN hb); clear HX hb c0 c1 c2 c3 c4 c5 c6 c7 c8 c9 c10 d0 d1 d2; have HX:=HXN; clear HXN; obtain ⟨c0,c1,c2,c3,c4,c5,c6,c7,c8,c9,c10⟩:=rbox_of (HALL.out _ HX.out).1; obtain ⟨d0,d1,d2⟩:=trio_of (HALL.out _ HX.out).2.1)
     go_ret2
     exact ⟨retT HE.out.1 HE.out.2,(HALL.out _ HX.out).2.2⟩
   · by_cases h2 : (bn : Int) ≤ a
     · have HE : Hid (0 = ba0 ∧ 5 = be0):=zH (by have h9:=HB1.out; rw [if_pos (.inr h2)] at h9; injection h9 with h8 h9; exact ⟨h8,h9⟩)
       go_enter Tryz.func24,Tryz.ntmps24
       go_upto_region 1 with (fail)
       rw [← HWW.out]
       go_wp2_with (go_at_call 14; refine (HCH.out _ (HALL.out _ HX.out).2.2).mono ?_; rintro e w1 ⟨rfl,hb⟩; have HXN:=zH (bt HX.out zN hb); clear HX hb c0 c1 c2 c3 c4 c5 c6 c7 c8 c9 c10 d0 d1 d2; have HX:=HXN; clear HXN; obtain ⟨c0,c1,c2,c3,c4,c5,c6,c7,c8,c9,c10⟩:=rbox_of (HALL.out _ HX.out).1; obtain ⟨d0,d1,d2⟩:=trio_of (HALL.out _ HX.out).2.1)
       go_ret2
       exact ⟨retT HE.out.1 HE.out.2,(HALL.out _ HX.out).2.2⟩
     · obtain ⟨i,rfl⟩ : ∃ i : Nat,a = (i : Int):=⟨a.toNat,by omega⟩
       have hib : i < bn:=by omega
       obtain ⟨l,hl⟩ : ∃ l,C.bads[i]? = some l:=⟨_,List.getElem?_eq_getElem (by rw [HMM.out.2.2.2]; exact hib)⟩
       obtain ⟨bb,bo,e,hbb,hbc⟩:=HBR.out i l hl
       subst e
       have HL:=zH hl
       have hce:=hbc 0 _ rfl
       simp only [Nat.mul_one,Nat.add_zero] at hce
       have HLR : Hid (∀ wx,Below w.heap.size w wx → RowE 1 encI wx (.slice (some ⟨bb,bo + i,none⟩) 1 (bc - i)) [l]):=zH (fun wx hb => ⟨_,_,rfl,by show 1 ≤ bc - i; omega,by unfold maxLen; omega,fun j z hz => by
        match j,hz with
        | 0,hz =>
          simp at hz
          subst hz
          exact ⟨bb,bo + i,rfl,by have:=hb.size; omega,fun k u hu => by
           match k,hu with
           | 0,hu =>
             simp at hu
             subst hu
             exact (hb.cell (p:=⟨bb,bo + i,none⟩) hbb).trans hce⟩⟩)
       obtain ⟨ra,rE,hwr⟩ : ∃ x y,walkR C O (loopless t) = (x,y):=⟨_,_,rfl⟩
       have HWR:=zH hwr
       have HB2 : Hid ((if rE ≠ 0 then (ra,rE) else if cameS [l] ((valsT C O t).drop (n - 1)) = [true] then ((n : Int) - 1,0) else ((n : Int) - 1,131)) = (ba0,be0)):=zH (by
        have h9:=HB1.out
        rw [if_neg (by omega),hwr,show C.bads.getD (i : Int).toNat 0 = l by simp [List.getD,hl]] at h9
        exact h9)
       have hck:=HR.out
       have hus:=watch_uses hck
       have hlu : ∀ z ∈ [l],UseL C z:=fun z hz => by simp at hz; subst hz; exact hus.b _ (List.mem_of_getElem? hl)
       have HCK:=zH (And.intro (watch_check (ls:=[l]) (fs:=[]) hck hlu (by simp) (by simp) (by simp)) (And.intro (watch_ok (ls:=[l]) (fs:=[]) HOK.out.1 (fun z hz => by simp at hz; subst hz; exact HOK.out.1.b _ (List.mem_of_getElem? hl)) (by simp)) (And.intro (watch_room (ls:=[l]) (fs:=[]) hck (by simp) (by simp)) (HOK.out.2 hck))))
       have hw9 : IntKind.i64.wrap ((n : Int) - 1) = (n : Int) - 1:=by rw [IntKind.wrap_i64] <;> omega
       have hw8 : IntKind.i64.wrap ((i : Int) + 1) = ((i + 1 : Nat) : Int):=by rw [IntKind.wrap_i64] <;> omega
       have hi0 : (0 : Int) ≤ (i : Int):=by omega
       have hi1 : ¬ (i : Int) < 0:=by omega
       have hi5 : (0 : Int) ≤ (i : Int) + 1:=by omega
       have hi6 : (i : Int) + 1 ≤ (bc : Int):=by omega
       have hi7 : ¬ bc = i:=by omega
       clear h1 hl hce hbc hwr hck hus hlu HB1 HBR
       go_enter Tryz.func24,Tryz.ntmps24
       go_upto_region 1 with (fail)
       rw [← HWW.out]
       go_upto_region 7 with (go_at_call 14; refine (HCH.out _ (HALL.out _ HX.out).2.2).mono ?_; rintro e w1 ⟨rfl,hb⟩; have HXN:=zH (bt HX.out zN hb); clear HX hb c0 c1 c2 c3 c4 c5 c6 c7 c8 c9 c10 d0 d1 d2; have HX:=HXN; clear HXN; obtain ⟨c0,c1,c2,c3,c4,c5,c6,c7,c8,c9,c10⟩:=rbox_of (HALL.out _ HX.out).1; obtain ⟨d0,d1,d2⟩:=trio_of (HALL.out _ HX.out).2.1)
       have HDX : Hid (∀ wz,Below w1.heap.size w1 wz → Below W0.heap.size W0 wz):=zH (fun wz hz => bt HX.out zN hz)
       go_cut [6,7,11] (fun x y p wx => ∃ ba,x = .int .i64 ra ∧ y = .int .i64 rE ∧ p = .pointer (some ⟨ba,0,none⟩) ∧ WalkP w1 wx ⟨Vi,Vl,Vo,.slice (some ⟨bb,bo,none⟩) bn bc,Vc,Vj,Vf,Va,Vs,Vt⟩ C [l] [] (.slice (some ⟨bb,bo + i,none⟩) 1 (bc - i)) (.slice none 0 0) m ⟨.slice iA il ic,.slice rA n rc⟩ (loopless t) (-1) O (((n : Int) - 1).toNat) ba n 1 rE)
       case first =>
        have HIN : Hid (∀ wx,Below w1.heap.size w1 wx → C.In wx ⟨Vi,Vl,Vo,.slice (some ⟨bb,bo,none⟩) bn bc,Vc,Vj,Vf,Va,Vs,Vt⟩ ∧ t.In wx ⟨.slice iA il ic,.slice rA n rc⟩):=zH (fun wx hx => HIN0.out wx (HALL.out _ (HDX.out _ hx)).2.2)
        have HSS : Hid (∀ wz,Below w1.heap.size w1 wz → wz.cell? ⟨w.heap.size,0,none⟩ = some (.int .i64 m) ∧ wz.cell? ⟨w.heap.size,1,none⟩ = some Vi ∧ wz.cell? ⟨w.heap.size,2,none⟩ = some Vl ∧ wz.cell? ⟨w.heap.size,3,none⟩ = some Vo ∧ wz.cell? ⟨w.heap.size,4,none⟩ = some (.slice (some ⟨bb,bo,none⟩) bn bc) ∧ wz.cell? ⟨w.heap.size,5,none⟩ = some Vc ∧ wz.cell? ⟨w.heap.size,6,none⟩ = some Vj ∧ wz.cell? ⟨w.heap.size,7,none⟩ = some Vf ∧ wz.cell? ⟨w.heap.size,8,none⟩ = some Va ∧ wz.cell? ⟨w.heap.size,9,none⟩ = some Vs ∧ wz.cell? ⟨w.heap.size,10,none⟩ = some Vt ∧ wz.cell? ⟨w.heap.size + 1,0,none⟩ = some (.slice iA il ic) ∧ wz.cell? ⟨w.heap.size + 1,1,none⟩ = some (.slice rA n rc) ∧ wz.cell? ⟨w.heap.size + 1,2,none⟩ = some (.int .i64 lp)):=zH (fun wz hz => by
         have h9:=HALL.out _ (HDX.out _ hz)
         obtain ⟨a0,a1,a2,a3,a4,a5,a6,a7,a8,a9,a10⟩:=rbox_of h9.1
         obtain ⟨b0,b1,b2⟩:=trio_of h9.2.1
         exact ⟨a0,a1,a2,a3,a4,a5,a6,a7,a8,a9,a10,b0,b1,b2⟩)
        have HWO : Hid (∀ wx,Below w1.heap.size w1 wx → ∀ gj,Blk wx gj 22 #[.slice (some ⟨bb,bo + i,none⟩) 1 (bc - i)] → Calls Tryz.prog 15 #[(watchV ⟨Vi,Vl,Vo,.slice (some ⟨bb,bo,none⟩) bn bc,Vc,Vj,Vf,Va,Vs,Vt⟩ gj (.slice none 0 0)).val m,(TV.mk (.slice iA il ic) (.slice rA n rc)).val (-1),.int .i64 ((n : Int) - 1)] wx fun e w' => Below wx.heap.size wx w' ∧ ∃ cs : Array Value,e = .returned (.tuple #[.agg cs,.int .i64 ra,.int .i64 rE]) ∧ (rE ≠ 0 → cs = zeroW) ∧
         (rE = 0 → ∃ gm xs g,cs = walkCells (watchV ⟨Vi,Vl,Vo,.slice (some ⟨bb,bo,none⟩) bn bc,Vc,Vj,Vf,Va,Vs,Vt⟩ gj (.slice none 0 0)) m ⟨.slice iA il ic,.slice rA n rc⟩ (-1) (.slice (some ⟨gm,0,none⟩) n n) (.slice (some ⟨g,0,none⟩) 1 1) ∧ wx.heap.size ≤ gm ∧ MomB w' gm n xs ∧ Moms w' wx.heap.size xs (momsG (watchC C [l] []) O (loopless t).init (loopless t).rows) ∧ wx.heap.size ≤ g ∧ Tab w' g (cameS ([l] ++ []) ((valsT C O (loopless t)).drop ((n : Int) - 1).toNat)))):=zH (fun wx hx gj hgj => by
         have h9:=walkOf_any wx (watchV ⟨Vi,Vl,Vo,.slice (some ⟨bb,bo,none⟩) bn bc,Vc,Vj,Vf,Va,Vs,Vt⟩ gj (.slice none 0 0)) C [l] [] ⟨.slice iA il ic,.slice rA n rc⟩ (loopless t) ((n : Int) - 1) O gj (some ⟨bb,bo + i,none⟩) (bc - i) (watch_in (HIN.out _ hx).1 hgj (HLR.out _ (HALL.out _ (HDX.out _ hx)).2.2) rowe_nilR) rfl hgj HCK.out.1 HCK.out.2.1 HCK.out.2.2.1 (show (loopless t).In wx _ from ⟨(HIN.out _ hx).2.i,(HIN.out _ hx).2.r⟩) HCK.out.2.2.2 (by simp) (by simp) (fun _ => by omega)
         rw [HMM.out.1,HWR.out,show (loopless t).rows.length = n from HMM.out.2.1] at h9
         exact h9)
        refine wp_region_T (by kernel_rfl) (fun wz => wz.cell? ⟨w.heap.size,0,none⟩ = some (.int .i64 m) ∧ wz.cell? ⟨w.heap.size,1,none⟩ = some Vi ∧ wz.cell? ⟨w.heap.size,2,none⟩ = some Vl ∧ wz.cell? ⟨w.heap.size,3,none⟩ = some Vo ∧ wz.cell? ⟨w.heap.size,4,none⟩ = some (.slice (some ⟨bb,bo,none⟩) bn bc) ∧ wz.cell? ⟨w.heap.size,5,none⟩ = some Vc ∧ wz.cell? ⟨w.heap.size,6,none⟩ = some Vj ∧ wz.cell? ⟨w.heap.size,7,none⟩ = some Vf ∧ wz.cell? ⟨w.heap.size,8,none⟩ = some Va ∧ wz.cell? ⟨w.heap.size,9,none⟩ = some Vs ∧ wz.cell? ⟨w.heap.size,10,none⟩ = some Vt ∧ wz.cell? ⟨w.heap.size + 1,0,none⟩ = some (.slice iA il ic) ∧ wz.cell? ⟨w.heap.size + 1,1,none⟩ = some (.slice rA n rc) ∧ wz.cell? ⟨w.heap.size + 1,2,none⟩ = some (.int .i64 lp)) 20 ?_
        clear c0 c1 c2 c3 c4 c5 c6 c7 c8 c9 c10 d0 d1 d2
        have HD0 : Hid (Below w1.heap.size w1 w1.drew):=zH (Below.refl _ _).drew
        have HD:=HD0
        have hHeld:=HSS.out _ HD.out
        refine wpAnyT_take (i:=0) (oi:={ dst:=some 34,op:=Op.load 29 (Operand.tmp 3),type:=29,pos:="replay.go:20",after:=#[],guard:=none }) (v:=?v0rb7q1) rfl (by kernel_rfl) (fun _ _ _ h => h) (by rfl) hHeld ?h0rb7q1 ?_
        case h0rb7q1 => (intro w' hSw; (try dsimp only at hSw); go_simp; try with_reducible rfl)
        (try simp only [Act.put,zA,zB,zC])
        refine wpAnyT_take (i:=1) (oi:={ dst:=some 35,op:=Op.fieldAddr 29 (Operand.tmp 3) 4,type:=0,pos:="replay.go:20",after:=#[],guard:=none }) (v:=?v1rb7q1) rfl (by kernel_rfl) (fun _ _ _ h => h) (by rfl) hHeld ?h1rb7q1 ?_
        case h1rb7q1 => (intro w' hSw; (try dsimp only at hSw); go_simp; try with_reducible rfl)
        (try simp only [Act.put,zA,zB,zC])
        refine wpAnyT_take (i:=2) (oi:={ dst:=some 36,op:=Op.load 22 (Operand.tmp 35),type:=22,pos:="replay.go:20",after:=#[{ on:=1,ground:=Ground.data }],guard:=none }) (v:=?v2rb7q1) rfl (by kernel_rfl) (fun _ _ _ h => h) (by rfl) hHeld ?h2rb7q1 ?_
        case h2rb7q1 => (intro w' hSw; (try dsimp only at hSw); go_simp; try with_reducible rfl)
        (try simp only [Act.put,zA,zB,zC])
        refine wpAnyT_take (i:=3) (oi:={ dst:=some 37,op:=Op.move (Operand.tmp 1),type:=3,pos:="replay.go:20",after:=#[],guard:=none }) (v:=?v3rb7q1) rfl (by kernel_rfl) (fun _ _ _ h => h) (by rfl) hHeld ?h3rb7q1 ?_
        case h3rb7q1 => (intro w' hSw; (try dsimp only at hSw); go_simp; try with_reducible rfl)
        (try simp only [Act.put,zA,zB,zC])
        refine wpAnyT_take (i:=4) (oi:={ dst:=some 38,op:=Op.move (Operand.tmp 1),type:=3,pos:="replay.go:20",after:=#[],guard:=none }) (v:=?v4rb7q1) rfl (by kernel_rfl) (fun _ _ _ h => h) (by rfl) hHeld ?h4rb7q1 ?_
        case h4rb7q1 => (intro w' hSw; (try dsimp only at hSw); go_simp; try with_reducible rfl)
        (try simp only [Act.put,zA,zB,zC])
        refine wpAnyT_take (i:=5) (oi:={ dst:=some 39,op:=Op.binOp BinOp.add 3 (Operand.tmp 38) (Operand.const (Value.int IntKind.i64 1)) 3,type:=3,pos:="replay.go:20",after:=#[{ on:=4,ground:=Ground.data }],guard:=none }) (v:=?v5rb7q1) rfl (by kernel_rfl) (fun _ _ _ h => h) (by rfl) hHeld ?h5rb7q1 ?_
        case h5rb7q1 => (intro w' hSw; (try dsimp only at hSw); go_simp; try with_reducible rfl)
        (try simp only [Act.put,zA,zB,zC])
        refine wpAnyT_take (i:=6) (oi:={ dst:=some 40,op:=Op.slice 22 (Operand.tmp 36) (some (Operand.tmp 37)) (some (Operand.tmp 39)) none,type:=22,pos:="replay.go:20",after:=#[{ on:=2,ground:=Ground.data },{ on:=3,ground:=Ground.data },{ on:=5,ground:=Ground.data }],guard:=none }) (v:=?v6rb7q1) rfl (by kernel_rfl) (fun _ _ _ h => h) (by rfl) hHeld ?h6rb7q1 ?_
        case h6rb7q1 => (intro w' hSw; (try dsimp only at hSw); go_simp; try with_reducible rfl)
        (try simp only [Act.put,zA,zB,zC])
        refine wpAnyT_take (i:=8) (oi:={ dst:=some 42,op:=Op.load 33 (Operand.tmp 5),type:=33,pos:="replay.go:20",after:=#[],guard:=none }) (v:=?v8rb7q2) rfl (by kernel_rfl) (fun _ _ _ h => h) (by rfl) hHeld ?h8rb7q2 ?_
        case h8rb7q2 => (intro w' hSw; (try dsimp only at hSw); go_simp; try with_reducible rfl)
        (try simp only [Act.put,zA,zB,zC])
        refine wpAnyT_take (i:=10) (oi:={ dst:=some 44,op:=Op.move (Operand.tmp 10),type:=3,pos:="replay.go:20",after:=#[],guard:=none }) (v:=?v10rb7q3) rfl (by kernel_rfl) (fun _ _ _ h => h) (by rfl) hHeld ?h10rb7q3 ?_
        case h10rb7q3 => (intro w' hSw; (try dsimp only at hSw); go_simp; try with_reducible rfl)
        (try simp only [Act.put,zA,zB,zC])
        clear hHeld
        refine wpAnyT_twoR (i:=7) (j:=16) (by kernel_rfl) ?faB1 ?fbB1
        case faB1 =>
         refine wpOpTR (i:=7) rfl (fun K hK => ?_)
         go_simp
         go_at_call 16
         have hwt:=watching_any w1.drew ⟨Vi,Vl,Vo,.slice (some ⟨bb,bo,none⟩) bn bc,Vc,Vj,Vf,Va,Vs,Vt⟩ C (some ⟨bb,bo + i,none⟩) 1 (bc - i) none 0 0 (HIN.out _ HD.out).1
         rw [HMM.out.1] at hwt
         refine hwt.mono ?_
         clear hwt
         rintro e wa ⟨gj,rfl,_,hj,hb⟩
         have HJ:=zH hj
         clear hj
         have HD2:=zH (bt HD.out zN hb)
         clear HD hb
         have HD:=HD2
         clear HD2
         refine hK.out _ _ (fun _ => HSS.out _ HD.out) ?_
         clear hK K
         (try simp only [Act.put,zA,zB,zC])
         refine wpAnyT_twoR (i:=9) (j:=16) (by kernel_rfl) ?faB2 ?fbB2
         case faB2 =>
          refine wpOpTR (i:=9) rfl (fun K hK => ?_)
          go_simp
          go_at_call 53
          refine (withoutLoop_any wa iA il ic rA n rc lp).mono ?_
          rintro e we ⟨rfl,hb⟩
          have HJ2:=zH (HJ.out.below hb HJ.out.lt)
          clear HJ
          have HJ:=HJ2
          clear HJ2
          have HD2:=zH (bt HD.out zN hb)
          clear HD hb
          have HD:=HD2
          clear HD2
          refine hK.out _ _ (fun _ => HSS.out _ HD.out) ?_
          clear hK K
          (try simp only [Act.put,zA,zB,zC])
          refine wpAnyT_twoR (i:=11) (j:=16) (by kernel_rfl) ?faB3 ?fbB3
          case faB3 =>
           refine wpOpTR (i:=11) rfl (fun K hK => ?_)
           go_simp
           go_at_call 15
           have hwo:=HWO.out we HD.out gj HJ.out
           refine hwo.mono ?_
           clear hwo
           rintro e wk ⟨hb,cs,rfl,hz,hyes⟩
           have HWY:=zH (And.intro hz hyes)
           clear hz hyes
           have HJ2:=zH (HJ.out.below hb HJ.out.lt)
           clear HJ
           have HJ:=HJ2
           clear HJ2
           have HSC : Hid (w1.heap.size ≤ we.heap.size):=zH HD.out.size
           have HD2:=zH (bt HD.out zN hb)
           clear HD hb
           have HD:=HD2
           clear HD2
           refine hK.out _ _ (fun _ => HSS.out _ HD.out) ?_
           clear hK K
           (try simp only [Act.put,zA,zB,zC])
           have hHeld:=HSS.out _ HD.out
           refine wpAnyT_take (i:=12) (oi:={ dst:=some 33,op:=Op.move (Operand.tmp 45),type:=54,pos:="replay.go:20",after:=#[{ on:=11,ground:=Ground.data }],guard:=none }) (v:=?v12rb7q4) rfl (by kernel_rfl) (fun _ _ _ h => h) (by rfl) hHeld ?h12rb7q4 ?_
           case h12rb7q4 => (intro w' hSw; (try dsimp only at hSw); go_simp; try with_reducible rfl)
           (try simp only [Act.put,zA,zB,zC])
           refine wpAnyT_take (i:=13) (oi:={ dst:=some 46,op:=Op.extract (Operand.tmp 33) 0,type:=53,pos:="replay.go:20",after:=#[{ on:=12,ground:=Ground.data }],guard:=none }) (v:=?v13rb7q4) rfl (by kernel_rfl) (fun _ _ _ h => h) (by rfl) hHeld ?h13rb7q4 ?_
           case h13rb7q4 => (intro w' hSw; (try dsimp only at hSw); go_simp; try with_reducible rfl)
           (try simp only [Act.put,zA,zB,zC])
           refine wpAnyT_take (i:=14) (oi:={ dst:=some 47,op:=Op.extract (Operand.tmp 33) 1,type:=3,pos:="replay.go:20",after:=#[{ on:=12,ground:=Ground.data },{ on:=17,ground:=Ground.gcOnly Departure.lateStores }],guard:=none }) (v:=?v14rb7q4) rfl (by kernel_rfl) (fun _ _ _ h => h) (by rfl) hHeld ?h14rb7q4 ?_
           case h14rb7q4 => (intro w' hSw; (try dsimp only at hSw); go_simp; try with_reducible rfl)
           (try simp only [Act.put,zA,zB,zC])
           refine wpAnyT_take (i:=15) (oi:={ dst:=some 48,op:=Op.extract (Operand.tmp 33) 2,type:=36,pos:="replay.go:20",after:=#[{ on:=12,ground:=Ground.data },{ on:=18,ground:=Ground.gcOnly Departure.lateStores }],guard:=none }) (v:=?v15rb7q4) rfl (by kernel_rfl) (fun _ _ _ h => h) (by rfl) hHeld ?h15rb7q4 ?_
           case h15rb7q4 => (intro w' hSw; (try dsimp only at hSw); go_simp; try with_reducible rfl)
           (try simp only [Act.put,zA,zB,zC])
           clear hHeld
           refine wpAnyT_one (i:=16) rfl (by kernel_rfl) (fun K hK => ?_)
           go_simp
           obtain ⟨wb,ba,hwb,hba,hb,h2,h3,h4⟩:=box_new wk
           rw [← hwb,← hba]
           have HA:=zH h2
           have HBG : Hid (w1.heap.size ≤ ba):=zH (Nat.le_trans HD.out.size h3)
           have HBO : Hid (wk.heap.size ≤ ba):=zH h3
           have HKB:=zH h4
           have HJ2:=zH (HJ.out.below hb HJ.out.lt)
           clear HJ
           have HJ:=HJ2
           clear HJ2
           have HD2:=zH (bt HD.out zN hb)
           clear HD hb h2 h3 h4 hwb hba
           have HD:=HD2
           clear HD2
           refine hK.out _ _ (fun _ => HSS.out _ HD.out) ?_
           clear hK K
           (try simp only [Act.put,zA,zB,zC])
           refine wpAnyT_one (i:=17) rfl (by kernel_rfl) (fun K hK => ?_)
           rw [if_pos (by rfl)]
           have hsz : cs.size = 16:=by
            by_cases h9 : rE = 0
            · obtain ⟨gm,xs,g,rfl,_⟩:=HWY.out.2 h9; rfl
            · obtain rfl:=HWY.out.1 h9; rfl
           have hon : cs.all (·.oneCell') = true:=by
            have s1 : ∀ a b c,(Value.slice a b c).oneCell' = true:=fun _ _ _ => rfl
            have i1 : ∀ k z,(Value.int k z).oneCell' = true:=fun _ _ => rfl
            by_cases h9 : rE = 0
            · obtain ⟨gm,xs,g,rfl,_⟩:=HWY.out.2 h9
              obtain ⟨o1,o2,o3,o4,o5⟩:=HONE.out
              simp [watchV,s1,i1,o1,o2,o3,o4]
            · obtain rfl:=HWY.out.1 h9
              simp [s1,i1]
           have HP:=zH (walkP_of HD.out HA.out HJ.out HSC.out HBG.out (.inr HBO.out) (fun k hk _ => HKB.out k hk) HWY.out)
           refine wp_store_row 53 (.tmp 11) (.tmp 46) rfl ba cs rfl rfl 53 _ HA.out (by rw [hsz]; kernel_rfl) hsz.symm hon (hK.out _ _ (fun _ => HSS.out _ HP.out.1) ?_)
           clear hK K hsz hon
           (try simp only [Act.put,List.setIfInBounds_toArray])
           have hHeld:=HSS.out _ HP.out.1
           refine wpAnyT_take (i:=18) (oi:={ dst:=some 6,op:=Op.assign (Operand.tmp 47),type:=3,pos:="replay.go:20",after:=#[{ on:=14,ground:=Ground.data },{ on:=17,ground:=Ground.chain },{ on:=0,ground:=Ground.phase },{ on:=1,ground:=Ground.phase },{ on:=2,ground:=Ground.phase },{ on:=3,ground:=Ground.phase },{ on:=4,ground:=Ground.phase },{ on:=5,ground:=Ground.phase },{ on:=6,ground:=Ground.phase },{ on:=7,ground:=Ground.phase },{ on:=8,ground:=Ground.phase },{ on:=9,ground:=Ground.phase },{ on:=10,ground:=Ground.phase },{ on:=11,ground:=Ground.phase },{ on:=12,ground:=Ground.phase },{ on:=13,ground:=Ground.phase },{ on:=14,ground:=Ground.phase },{ on:=15,ground:=Ground.textOnly Departure.lateStores },{ on:=16,ground:=Ground.phase },{ on:=17,ground:=Ground.phase }],guard:=none }) (v:=?v18rb7q5) rfl (by kernel_rfl) (fun _ _ _ h => h) (by rfl) hHeld ?h18rb7q5 ?_
           case h18rb7q5 => (intro w' hSw; (try dsimp only at hSw); go_simp; try with_reducible rfl)
           (try simp only [Act.put])
           refine wpAnyT_take (i:=19) (oi:={ dst:=some 7,op:=Op.assign (Operand.tmp 48),type:=36,pos:="replay.go:20",after:=#[{ on:=15,ground:=Ground.data },{ on:=18,ground:=Ground.chain },{ on:=0,ground:=Ground.phase },{ on:=1,ground:=Ground.phase },{ on:=2,ground:=Ground.phase },{ on:=3,ground:=Ground.phase },{ on:=4,ground:=Ground.phase },{ on:=5,ground:=Ground.phase },{ on:=6,ground:=Ground.phase },{ on:=7,ground:=Ground.phase },{ on:=8,ground:=Ground.phase },{ on:=9,ground:=Ground.phase },{ on:=10,ground:=Ground.phase },{ on:=11,ground:=Ground.phase },{ on:=12,ground:=Ground.phase },{ on:=13,ground:=Ground.phase },{ on:=14,ground:=Ground.phase },{ on:=15,ground:=Ground.phase },{ on:=16,ground:=Ground.phase },{ on:=17,ground:=Ground.phase },{ on:=18,ground:=Ground.phase }],guard:=none }) (v:=?v19rb7q5) rfl (by kernel_rfl) (fun _ _ _ h => h) (by rfl) hHeld ?h19rb7q5 ?_
           case h19rb7q5 => (intro w' hSw; (try dsimp only at hSw); go_simp; try with_reducible rfl)
           (try simp only [Act.put])
           clear hHeld
           refine wpAnyT_done (by kernel_rfl) ?_
           go_wp2_with fail
           go_meet
           exact ⟨ba,rfl,rfl,rfl,HP.out⟩
          case fbB3 =>
           refine wpOpTR (i:=16) rfl (fun K hK => ?_)
           go_simp
           obtain ⟨wb,ba,hwb,hba,hb,h2,h3,h4⟩:=box_new we
           rw [← hwb,← hba]
           have HA:=zH h2
           have HBG : Hid (w1.heap.size ≤ ba):=zH (Nat.le_trans HD.out.size h3)
           have HJ2:=zH (HJ.out.below hb HJ.out.lt)
           clear HJ
           have HJ:=HJ2
           clear HJ2
           have HD2:=zH (bt HD.out zN hb)
           clear HD hb h2 h3 h4 hwb hba
           have HD:=HD2
           clear HD2
           refine hK.out _ _ (fun _ => HSS.out _ HD.out) ?_
           clear hK K
           (try simp only [Act.put,zA,zB,zC])
           refine wpAnyT_one (i:=11) rfl (by kernel_rfl) (fun K hK => ?_)
           go_simp
           go_at_call 15
           have hwo:=HWO.out wb HD.out gj HJ.out
           refine hwo.mono ?_
           clear hwo
           rintro e wk ⟨hb,cs,rfl,hz,hyes⟩
           have HWY:=zH (And.intro hz hyes)
           clear hz hyes
           have HJ2:=zH (HJ.out.below hb HJ.out.lt)
           clear HJ
           have HJ:=HJ2
           clear HJ2
           have HSC : Hid (w1.heap.size ≤ wb.heap.size):=zH HD.out.size
           have HBO : Hid (ba < wb.heap.size):=zH HA.out.lt
           have HA2:=zH (HA.out.below hb HA.out.lt)
           clear HA
           have HA:=HA2
           clear HA2
           have HD2:=zH (bt HD.out zN hb)
           clear HD hb
           have HD:=HD2
           clear HD2
           refine hK.out _ _ (fun _ => HSS.out _ HD.out) ?_
           clear hK K
           (try simp only [Act.put,zA,zB,zC])
           have hHeld:=HSS.out _ HD.out
           refine wpAnyT_take (i:=12) (oi:={ dst:=some 33,op:=Op.move (Operand.tmp 45),type:=54,pos:="replay.go:20",after:=#[{ on:=11,ground:=Ground.data }],guard:=none }) (v:=?v12rb7q6) rfl (by kernel_rfl) (fun _ _ _ h => h) (by rfl) hHeld ?h12rb7q6 ?_
           case h12rb7q6 => (intro w' hSw; (try dsimp only at hSw); go_simp; try with_reducible rfl)
           (try simp only [Act.put,zA,zB,zC])
           refine wpAnyT_take (i:=13) (oi:={ dst:=some 46,op:=Op.extract (Operand.tmp 33) 0,type:=53,pos:="replay.go:20",after:=#[{ on:=12,ground:=Ground.data }],guard:=none }) (v:=?v13rb7q6) rfl (by kernel_rfl) (fun _ _ _ h => h) (by rfl) hHeld ?h13rb7q6 ?_
           case h13rb7q6 => (intro w' hSw; (try dsimp only at hSw); go_simp; try with_reducible rfl)
           (try simp only [Act.put,zA,zB,zC])
           refine wpAnyT_take (i:=14) (oi:={ dst:=some 47,op:=Op.extract (Operand.tmp 33) 1,type:=3,pos:="replay.go:20",after:=#[{ on:=12,ground:=Ground.data },{ on:=17,ground:=Ground.gcOnly Departure.lateStores }],guard:=none }) (v:=?v14rb7q6) rfl (by kernel_rfl) (fun _ _ _ h => h) (by rfl) hHeld ?h14rb7q6 ?_
           case h14rb7q6 => (intro w' hSw; (try dsimp only at hSw); go_simp; try with_reducible rfl)
           (try simp only [Act.put,zA,zB,zC])
           refine wpAnyT_take (i:=15) (oi:={ dst:=some 48,op:=Op.extract (Operand.tmp 33) 2,type:=36,pos:="replay.go:20",after:=#[{ on:=12,ground:=Ground.data },{ on:=18,ground:=Ground.gcOnly Departure.lateStores }],guard:=none }) (v:=?v15rb7q6) rfl (by kernel_rfl) (fun _ _ _ h => h) (by rfl) hHeld ?h15rb7q6 ?_
           case h15rb7q6 => (intro w' hSw; (try dsimp only at hSw); go_simp; try with_reducible rfl)
           (try simp only [Act.put,zA,zB,zC])
           clear hHeld
           refine wpAnyT_one (i:=17) rfl (by kernel_rfl) (fun K hK => ?_)
           rw [if_pos (by rfl)]
           have hsz : cs.size = 16:=by
            by_cases h9 : rE = 0
            · obtain ⟨gm,xs,g,rfl,_⟩:=HWY.out.2 h9; rfl
            · obtain rfl:=HWY.out.1 h9; rfl
           have hon : cs.all (·.oneCell') = true:=by
            have s1 : ∀ a b c,(Value.slice a b c).oneCell' = true:=fun _ _ _ => rfl
            have i1 : ∀ k z,(Value.int k z).oneCell' = true:=fun _ _ => rfl
            by_cases h9 : rE = 0
            · obtain ⟨gm,xs,g,rfl,_⟩:=HWY.out.2 h9
              obtain ⟨o1,o2,o3,o4,o5⟩:=HONE.out
              simp [watchV,s1,i1,o1,o2,o3,o4]
            · obtain rfl:=HWY.out.1 h9
              simp [s1,i1]
           have HP:=zH (walkP_of HD.out HA.out HJ.out HSC.out HBG.out (.inl HBO.out) (fun k _ _ => rfl) HWY.out)
           refine wp_store_row 53 (.tmp 11) (.tmp 46) rfl ba cs rfl rfl 53 _ HA.out (by rw [hsz]; kernel_rfl) hsz.symm hon (hK.out _ _ (fun _ => HSS.out _ HP.out.1) ?_)
           clear hK K hsz hon
           (try simp only [Act.put,List.setIfInBounds_toArray])
           have hHeld:=HSS.out _ HP.out.1
           refine wpAnyT_take (i:=18) (oi:={ dst:=some 6,op:=Op.assign (Operand.tmp 47),type:=3,pos:="replay.go:20",after:=#[{ on:=14,ground:=Ground.data },{ on:=17,ground:=Ground.chain },{ on:=0,ground:=Ground.phase },{ on:=1,ground:=Ground.phase },{ on:=2,ground:=Ground.phase },{ on:=3,ground:=Ground.phase },{ on:=4,ground:=Ground.phase },{ on:=5,ground:=Ground.phase },{ on:=6,ground:=Ground.phase },{ on:=7,ground:=Ground.phase },{ on:=8,ground:=Ground.phase },{ on:=9,ground:=Ground.phase },{ on:=10,ground:=Ground.phase },{ on:=11,ground:=Ground.phase },{ on:=12,ground:=Ground.phase },{ on:=13,ground:=Ground.phase },{ on:=14,ground:=Ground.phase },{ on:=15,ground:=Ground.textOnly Departure.lateStores },{ on:=16,ground:=Ground.phase },{ on:=17,ground:=Ground.phase }],guard:=none }) (v:=?v18rb7q7) rfl (by kernel_rfl) (fun _ _ _ h => h) (by rfl) hHeld ?h18rb7q7 ?_
           case h18rb7q7 => (intro w' hSw; (try dsimp only at hSw); go_simp; try with_reducible rfl)
           (try simp only [Act.put])
           refine wpAnyT_take (i:=19) (oi:={ dst:=some 7,op:=Op.assign (Operand.tmp 48),type:=36,pos:="replay.go:20",after:=#[{ on:=15,ground:=Ground.data },{ on:=18,ground:=Ground.chain },{ on:=0,ground:=Ground.phase },{ on:=1,ground:=Ground.phase },{ on:=2,ground:=Ground.phase },{ on:=3,ground:=Ground.phase },{ on:=4,ground:=Ground.phase },{ on:=5,ground:=Ground.phase },{ on:=6,ground:=Ground.phase },{ on:=7,ground:=Ground.phase },{ on:=8,ground:=Ground.phase },{ on:=9,ground:=Ground.phase },{ on:=10,ground:=Ground.phase },{ on:=11,ground:=Ground.phase },{ on:=12,ground:=Ground.phase },{ on:=13,ground:=Ground.phase },{ on:=14,ground:=Ground.phase },{ on:=15,ground:=Ground.phase },{ on:=16,ground:=Ground.phase },{ on:=17,ground:=Ground.phase },{ on:=18,ground:=Ground.phase }],guard:=none }) (v:=?v19rb7q7) rfl (by kernel_rfl) (fun _ _ _ h => h) (by rfl) hHeld ?h19rb7q7 ?_
           case h19rb7q7 => (intro w' hSw; (try dsimp only at hSw); go_simp; try with_reducible rfl)
           (try simp only [Act.put])
           clear hHeld
           refine wpAnyT_done (by kernel_rfl) ?_
           go_wp2_with fail
           go_meet
           exact ⟨ba,rfl,rfl,rfl,HP.out⟩
         case fbB2 =>
          refine wpOpTR (i:=16) rfl (fun K hK => ?_)
          go_simp
          obtain ⟨wb,ba,hwb,hba,hb,h2,h3,h4⟩:=box_new wa
          rw [← hwb,← hba]
          have HA:=zH h2
          have HBG : Hid (w1.heap.size ≤ ba):=zH (Nat.le_trans HD.out.size h3)
          have HJ2:=zH (HJ.out.below hb HJ.out.lt)
          clear HJ
          have HJ:=HJ2
          clear HJ2
          have HD2:=zH (bt HD.out zN hb)
          clear HD hb h2 h3 h4 hwb hba
          have HD:=HD2
          clear HD2
          refine hK.out _ _ (fun _ => HSS.out _ HD.out) ?_
          clear hK K
          (try simp only [Act.put,zA,zB,zC])
          refine wpAnyT_one (i:=9) rfl (by kernel_rfl) (fun K hK => ?_)
          go_simp
          go_at_call 53
          refine (withoutLoop_any wb iA il ic rA n rc lp).mono ?_
          rintro e we ⟨rfl,hb⟩
          have HJ2:=zH (HJ.out.below hb HJ.out.lt)
          clear HJ
          have HJ:=HJ2
          clear HJ2
          have HA2:=zH (HA.out.below hb HA.out.lt)
          clear HA
          have HA:=HA2
          clear HA2
          have HD2:=zH (bt HD.out zN hb)
          clear HD hb
          have HD:=HD2
          clear HD2
          refine hK.out _ _ (fun _ => HSS.out _ HD.out) ?_
          clear hK K
          (try simp only [Act.put,zA,zB,zC])
          refine wpAnyT_one (i:=11) rfl (by kernel_rfl) (fun K hK => ?_)
          go_simp
          go_at_call 15
          have hwo:=HWO.out we HD.out gj HJ.out
          refine hwo.mono ?_
          clear hwo
          rintro e wk ⟨hb,cs,rfl,hz,hyes⟩
          have HWY:=zH (And.intro hz hyes)
          clear hz hyes
          have HJ2:=zH (HJ.out.below hb HJ.out.lt)
          clear HJ
          have HJ:=HJ2
          clear HJ2
          have HSC : Hid (w1.heap.size ≤ we.heap.size):=zH HD.out.size
          have HBO : Hid (ba < we.heap.size):=zH HA.out.lt
          have HA2:=zH (HA.out.below hb HA.out.lt)
          clear HA
          have HA:=HA2
          clear HA2
          have HD2:=zH (bt HD.out zN hb)
          clear HD hb
          have HD:=HD2
          clear HD2
          refine hK.out _ _ (fun _ => HSS.out _ HD.out) ?_
          clear hK K
          (try simp only [Act.put,zA,zB,zC])
          have hHeld:=HSS.out _ HD.out
          refine wpAnyT_take (i:=12) (oi:={ dst:=some 33,op:=Op.move (Operand.tmp 45),type:=54,pos:="replay.go:20",after:=#[{ on:=11,ground:=Ground.data }],guard:=none }) (v:=?v12rb7q8) rfl (by kernel_rfl) (fun _ _ _ h => h) (by rfl) hHeld ?h12rb7q8 ?_
          case h12rb7q8 => (intro w' hSw; (try dsimp only at hSw); go_simp; try with_reducible rfl)
          (try simp only [Act.put,zA,zB,zC])
          refine wpAnyT_take (i:=13) (oi:={ dst:=some 46,op:=Op.extract (Operand.tmp 33) 0,type:=53,pos:="replay.go:20",after:=#[{ on:=12,ground:=Ground.data }],guard:=none }) (v:=?v13rb7q8) rfl (by kernel_rfl) (fun _ _ _ h => h) (by rfl) hHeld ?h13rb7q8 ?_
          case h13rb7q8 => (intro w' hSw; (try dsimp only at hSw); go_simp; try with_reducible rfl)
          (try simp only [Act.put,zA,zB,zC])
          refine wpAnyT_take (i:=14) (oi:={ dst:=some 47,op:=Op.extract (Operand.tmp 33) 1,type:=3,pos:="replay.go:20",after:=#[{ on:=12,ground:=Ground.data },{ on:=17,ground:=Ground.gcOnly Departure.lateStores }],guard:=none }) (v:=?v14rb7q8) rfl (by kernel_rfl) (fun _ _ _ h => h) (by rfl) hHeld ?h14rb7q8 ?_
          case h14rb7q8 => (intro w' hSw; (try dsimp only at hSw); go_simp; try with_reducible rfl)
          (try simp only [Act.put,zA,zB,zC])
          refine wpAnyT_take (i:=15) (oi:={ dst:=some 48,op:=Op.extract (Operand.tmp 33) 2,type:=36,pos:="replay.go:20",after:=#[{ on:=12,ground:=Ground.data },{ on:=18,ground:=Ground.gcOnly Departure.lateStores }],guard:=none }) (v:=?v15rb7q8) rfl (by kernel_rfl) (fun _ _ _ h => h) (by rfl) hHeld ?h15rb7q8 ?_
          case h15rb7q8 => (intro w' hSw; (try dsimp only at hSw); go_simp; try with_reducible rfl)
          (try simp only [Act.put,zA,zB,zC])
          clear hHeld
          refine wpAnyT_one (i:=17) rfl (by kernel_rfl) (fun K hK => ?_)
          rw [if_pos (by rfl)]
          have hsz : cs.size = 16:=by
           by_cases h9 : rE = 0
           · obtain ⟨gm,xs,g,rfl,_⟩:=HWY.out.2 h9; rfl
           · obtain rfl:=HWY.out.1 h9; rfl
          have hon : cs.all (·.oneCell') = true:=by
           have s1 : ∀ a b c,(Value.slice a b c).oneCell' = true:=fun _ _ _ => rfl
           have i1 : ∀ k z,(Value.int k z).oneCell' = true:=fun _ _ => rfl
           by_cases h9 : rE = 0
           · obtain ⟨gm,xs,g,rfl,_⟩:=HWY.out.2 h9
             obtain ⟨o1,o2,o3,o4,o5⟩:=HONE.out
             simp [watchV,s1,i1,o1,o2,o3,o4]
           · obtain rfl:=HWY.out.1 h9
             simp [s1,i1]
          have HP:=zH (walkP_of HD.out HA.out HJ.out HSC.out HBG.out (.inl HBO.out) (fun k _ _ => rfl) HWY.out)
          refine wp_store_row 53 (.tmp 11) (.tmp 46) rfl ba cs rfl rfl 53 _ HA.out (by rw [hsz]; kernel_rfl) hsz.symm hon (hK.out _ _ (fun _ => HSS.out _ HP.out.1) ?_)
          clear hK K hsz hon
          (try simp only [Act.put,List.setIfInBounds_toArray])
          have hHeld:=HSS.out _ HP.out.1
          refine wpAnyT_take (i:=18) (oi:={ dst:=some 6,op:=Op.assign (Operand.tmp 47),type:=3,pos:="replay.go:20",after:=#[{ on:=14,ground:=Ground.data },{ on:=17,ground:=Ground.chain },{ on:=0,ground:=Ground.phase },{ on:=1,ground:=Ground.phase },{ on:=2,ground:=Ground.phase },{ on:=3,ground:=Ground.phase },{ on:=4,ground:=Ground.phase },{ on:=5,ground:=Ground.phase },{ on:=6,ground:=Ground.phase },{ on:=7,ground:=Ground.phase },{ on:=8,ground:=Ground.phase },{ on:=9,ground:=Ground.phase },{ on:=10,ground:=Ground.phase },{ on:=11,ground:=Ground.phase },{ on:=12,ground:=Ground.phase },{ on:=13,ground:=Ground.phase },{ on:=14,ground:=Ground.phase },{ on:=15,ground:=Ground.textOnly Departure.lateStores },{ on:=16,ground:=Ground.phase },{ on:=17,ground:=Ground.phase }],guard:=none }) (v:=?v18rb7q9) rfl (by kernel_rfl) (fun _ _ _ h => h) (by rfl) hHeld ?h18rb7q9 ?_
          case h18rb7q9 => (intro w' hSw; (try dsimp only at hSw); go_simp; try with_reducible rfl)
          (try simp only [Act.put])
          refine wpAnyT_take (i:=19) (oi:={ dst:=some 7,op:=Op.assign (Operand.tmp 48),type:=36,pos:="replay.go:20",after:=#[{ on:=15,ground:=Ground.data },{ on:=18,ground:=Ground.chain },{ on:=0,ground:=Ground.phase },{ on:=1,ground:=Ground.phase },{ on:=2,ground:=Ground.phase },{ on:=3,ground:=Ground.phase },{ on:=4,ground:=Ground.phase },{ on:=5,ground:=Ground.phase },{ on:=6,ground:=Ground.phase },{ on:=7,ground:=Ground.phase },{ on:=8,ground:=Ground.phase },{ on:=9,ground:=Ground.phase },{ on:=10,ground:=Ground.phase },{ on:=11,ground:=Ground.phase },{ on:=12,ground:=Ground.phase },{ on:=13,ground:=Ground.phase },{ on:=14,ground:=Ground.phase },{ on:=15,ground:=Ground.phase },{ on:=16,ground:=Ground.phase },{ on:=17,ground:=Ground.phase },{ on:=18,ground:=Ground.phase }],guard:=none }) (v:=?v19rb7q9) rfl (by kernel_rfl) (fun _ _ _ h => h) (by rfl) hHeld ?h19rb7q9 ?_
          case h19rb7q9 => (intro w' hSw; (try dsimp only at hSw); go_simp; try with_reducible rfl)
          (try simp only [Act.put])
          clear hHeld
          refine wpAnyT_done (by kernel_rfl) ?_
          go_wp2_with fail
          go_meet
          exact ⟨ba,rfl,rfl,rfl,HP.out⟩
        case fbB1 =>
         refine wpOpTR (i:=16) rfl (fun K hK => ?_)
         go_simp
         obtain ⟨wb,ba,hwb,hba,hb,h2,h3⟩:=box_newD w1
         rw [← hwb,← hba]
         have HA:=zH h2
         have HBG : Hid (w1.heap.size ≤ ba):=zH h3
         clear HD
         have HD:=zH hb
         clear hb h2 h3 hwb hba
         refine hK.out _ _ (fun _ => HSS.out _ HD.out) ?_
         clear hK K
         (try simp only [Act.put,zA,zB,zC])
         refine wpAnyT_one (i:=7) rfl (by kernel_rfl) (fun K hK => ?_)
         go_simp
         go_at_call 16
         have hwt:=watching_any wb ⟨Vi,Vl,Vo,.slice (some ⟨bb,bo,none⟩) bn bc,Vc,Vj,Vf,Va,Vs,Vt⟩ C (some ⟨bb,bo + i,none⟩) 1 (bc - i) none 0 0 (HIN.out _ HD.out).1
         rw [HMM.out.1] at hwt
         refine hwt.mono ?_
         clear hwt
         rintro e wa ⟨gj,rfl,_,hj,hb⟩
         have HJ:=zH hj
         clear hj
         have HA2:=zH (HA.out.below hb HA.out.lt)
         clear HA
         have HA:=HA2
         clear HA2
         have HD2:=zH (bt HD.out zN hb)
         clear HD hb
         have HD:=HD2
         clear HD2
         refine hK.out _ _ (fun _ => HSS.out _ HD.out) ?_
         clear hK K
         (try simp only [Act.put,zA,zB,zC])
         refine wpAnyT_one (i:=9) rfl (by kernel_rfl) (fun K hK => ?_)
         go_simp
         go_at_call 53
         refine (withoutLoop_any wa iA il ic rA n rc lp).mono ?_
         rintro e we ⟨rfl,hb⟩
         have HJ2:=zH (HJ.out.below hb HJ.out.lt)
         clear HJ
         have HJ:=HJ2
         clear HJ2
         have HA2:=zH (HA.out.below hb HA.out.lt)
         clear HA
         have HA:=HA2
         clear HA2
         have HD2:=zH (bt HD.out zN hb)
         clear HD hb
         have HD:=HD2
         clear HD2
         refine hK.out _ _ (fun _ => HSS.out _ HD.out) ?_
         clear hK K
         (try simp only [Act.put,zA,zB,zC])
         refine wpAnyT_one (i:=11) rfl (by kernel_rfl) (fun K hK => ?_)
         go_simp
         go_at_call 15
         have hwo:=HWO.out we HD.out gj HJ.out
         refine hwo.mono ?_
         clear hwo
         rintro e wk ⟨hb,cs,rfl,hz,hyes⟩
         have HWY:=zH (And.intro hz hyes)
         clear hz hyes
         have HJ2:=zH (HJ.out.below hb HJ.out.lt)
         clear HJ
         have HJ:=HJ2
         clear HJ2
         have HSC : Hid (w1.heap.size ≤ we.heap.size):=zH HD.out.size
         have HBO : Hid (ba < we.heap.size):=zH HA.out.lt
         have HA2:=zH (HA.out.below hb HA.out.lt)
         clear HA
         have HA:=HA2
         clear HA2
         have HD2:=zH (bt HD.out zN hb)
         clear HD hb
         have HD:=HD2
         clear HD2
         refine hK.out _ _ (fun _ => HSS.out _ HD.out) ?_
         clear hK K
         (try simp only [Act.put,zA,zB,zC])
         have hHeld:=HSS.out _ HD.out
         refine wpAnyT_take (i:=12) (oi:={ dst:=some 33,op:=Op.move (Operand.tmp 45),type:=54,pos:="replay.go:20",after:=#[{ on:=11,ground:=Ground.data }],guard:=none }) (v:=?v12rb7q10) rfl (by kernel_rfl) (fun _ _ _ h => h) (by rfl) hHeld ?h12rb7q10 ?_
         case h12rb7q10 => (intro w' hSw; (try dsimp only at hSw); go_simp; try with_reducible rfl)
         (try simp only [Act.put,zA,zB,zC])
         refine wpAnyT_take (i:=13) (oi:={ dst:=some 46,op:=Op.extract (Operand.tmp 33) 0,type:=53,pos:="replay.go:20",after:=#[{ on:=12,ground:=Ground.data }],guard:=none }) (v:=?v13rb7q10) rfl (by kernel_rfl) (fun _ _ _ h => h) (by rfl) hHeld ?h13rb7q10 ?_
         case h13rb7q10 => (intro w' hSw; (try dsimp only at hSw); go_simp; try with_reducible rfl)
         (try simp only [Act.put,zA,zB,zC])
         refine wpAnyT_take (i:=14) (oi:={ dst:=some 47,op:=Op.extract (Operand.tmp 33) 1,type:=3,pos:="replay.go:20",after:=#[{ on:=12,ground:=Ground.data },{ on:=17,ground:=Ground.gcOnly Departure.lateStores }],guard:=none }) (v:=?v14rb7q10) rfl (by kernel_rfl) (fun _ _ _ h => h) (by rfl) hHeld ?h14rb7q10 ?_
         case h14rb7q10 => (intro w' hSw; (try dsimp only at hSw); go_simp; try with_reducible rfl)
         (try simp only [Act.put,zA,zB,zC])
         refine wpAnyT_take (i:=15) (oi:={ dst:=some 48,op:=Op.extract (Operand.tmp 33) 2,type:=36,pos:="replay.go:20",after:=#[{ on:=12,ground:=Ground.data },{ on:=18,ground:=Ground.gcOnly Departure.lateStores }],guard:=none }) (v:=?v15rb7q10) rfl (by kernel_rfl) (fun _ _ _ h => h) (by rfl) hHeld ?h15rb7q10 ?_
         case h15rb7q10 => (intro w' hSw; (try dsimp only at hSw); go_simp; try with_reducible rfl)
         (try simp only [Act.put,zA,zB,zC])
         clear hHeld
         refine wpAnyT_one (i:=17) rfl (by kernel_rfl) (fun K hK => ?_)
         rw [if_pos (by rfl)]
         have hsz : cs.size = 16:=by
          by_cases h9 : rE = 0
          · obtain ⟨gm,xs,g,rfl,_⟩:=HWY.out.2 h9; rfl
          · obtain rfl:=HWY.out.1 h9; rfl
         have hon : cs.all (·.oneCell') = true:=by
          have s1 : ∀ a b c,(Value.slice a b c).oneCell' = true:=fun _ _ _ => rfl
          have i1 : ∀ k z,(Value.int k z).oneCell' = true:=fun _ _ => rfl
          by_cases h9 : rE = 0
          · obtain ⟨gm,xs,g,rfl,_⟩:=HWY.out.2 h9
            obtain ⟨o1,o2,o3,o4,o5⟩:=HONE.out
            simp [watchV,s1,i1,o1,o2,o3,o4]
          · obtain rfl:=HWY.out.1 h9
            simp [s1,i1]
         have HP:=zH (walkP_of HD.out HA.out HJ.out HSC.out HBG.out (.inl HBO.out) (fun k _ _ => rfl) HWY.out)
         refine wp_store_row 53 (.tmp 11) (.tmp 46) rfl ba cs rfl rfl 53 _ HA.out (by rw [hsz]; kernel_rfl) hsz.symm hon (hK.out _ _ (fun _ => HSS.out _ HP.out.1) ?_)
         clear hK K hsz hon
         (try simp only [Act.put,List.setIfInBounds_toArray])
         have hHeld:=HSS.out _ HP.out.1
         refine wpAnyT_take (i:=18) (oi:={ dst:=some 6,op:=Op.assign (Operand.tmp 47),type:=3,pos:="replay.go:20",after:=#[{ on:=14,ground:=Ground.data },{ on:=17,ground:=Ground.chain },{ on:=0,ground:=Ground.phase },{ on:=1,ground:=Ground.phase },{ on:=2,ground:=Ground.phase },{ on:=3,ground:=Ground.phase },{ on:=4,ground:=Ground.phase },{ on:=5,ground:=Ground.phase },{ on:=6,ground:=Ground.phase },{ on:=7,ground:=Ground.phase },{ on:=8,ground:=Ground.phase },{ on:=9,ground:=Ground.phase },{ on:=10,ground:=Ground.phase },{ on:=11,ground:=Ground.phase },{ on:=12,ground:=Ground.phase },{ on:=13,ground:=Ground.phase },{ on:=14,ground:=Ground.phase },{ on:=15,ground:=Ground.textOnly Departure.lateStores },{ on:=16,ground:=Ground.phase },{ on:=17,ground:=Ground.phase }],guard:=none }) (v:=?v18rb7q11) rfl (by kernel_rfl) (fun _ _ _ h => h) (by rfl) hHeld ?h18rb7q11 ?_
         case h18rb7q11 => (intro w' hSw; (try dsimp only at hSw); go_simp; try with_reducible rfl)
         (try simp only [Act.put])
         refine wpAnyT_take (i:=19) (oi:={ dst:=some 7,op:=Op.assign (Operand.tmp 48),type:=36,pos:="replay.go:20",after:=#[{ on:=15,ground:=Ground.data },{ on:=18,ground:=Ground.chain },{ on:=0,ground:=Ground.phase },{ on:=1,ground:=Ground.phase },{ on:=2,ground:=Ground.phase },{ on:=3,ground:=Ground.phase },{ on:=4,ground:=Ground.phase },{ on:=5,ground:=Ground.phase },{ on:=6,ground:=Ground.phase },{ on:=7,ground:=Ground.phase },{ on:=8,ground:=Ground.phase },{ on:=9,ground:=Ground.phase },{ on:=10,ground:=Ground.phase },{ on:=11,ground:=Ground.phase },{ on:=12,ground:=Ground.phase },{ on:=13,ground:=Ground.phase },{ on:=14,ground:=Ground.phase },{ on:=15,ground:=Ground.phase },{ on:=16,ground:=Ground.phase },{ on:=17,ground:=Ground.phase },{ on:=18,ground:=Ground.phase }],guard:=none }) (v:=?v19rb7q11) rfl (by kernel_rfl) (fun _ _ _ h => h) (by rfl) hHeld ?h19rb7q11 ?_
         case h19rb7q11 => (intro w' hSw; (try dsimp only at hSw); go_simp; try with_reducible rfl)
         (try simp only [Act.put])
         clear hHeld
         refine wpAnyT_done (by kernel_rfl) ?_
         go_wp2_with fail
         go_meet
         exact ⟨ba,rfl,rfl,rfl,HP.out⟩
       case rest =>
        obtain ⟨ba,rfl,rfl,rfl,hwp⟩:=hcut
        obtain ⟨hbw,cs,hcs,hyes⟩:=hwp
        have HBW:=zH hbw
        by_cases h3 : rE = 0
        · subst h3
          obtain ⟨gj,gm,xs,g,rfl,_,_,_,htb⟩:=hyes rfl
          have hc15:=hcs.cell 15
          simp only [List.getElem?_toArray,List.getElem?_cons_zero,List.getElem?_cons_succ] at hc15
          obtain ⟨b,hb9⟩ : ∃ b,cameS [l] ((valsT C O t).drop (n - 1)) = [b]:=⟨_,rfl⟩
          have hdr : (((n : Int) - 1).toNat) = n - 1:=by omega
          have htb2 : Tab wc g [b]:=by
           have h9:=htb
           rw [hdr] at h9
           exact hb9 ▸ h9
          have hcb:=htb2.cell (i:=0) (x:=b) rfl
          have HE : Hid ((if b = true then ((n : Int) - 1,(0 : Int)) else ((n : Int) - 1,131)) = (ba0,be0)):=zH (by
           have h9:=HB2.out
           rw [if_neg (by simp),hb9] at h9
           cases b <;> simpa using h9)
          clear hcs htb htb2 hyes hb9 hdr hbw HB2
          cases b with
          | true =>
            have HF : Hid ((n : Int) - 1 = ba0 ∧ 0 = be0):=zH (by have h9:=HE.out; rw [if_pos rfl] at h9; injection h9 with h7 h8; exact ⟨h7,h8⟩)
            go_wp2
            go_ret2
            exact ⟨retT HF.out.1 HF.out.2,bt (HALL.out _ HX.out).2.2 zN HBW.out⟩
          | false =>
            have HF : Hid ((n : Int) - 1 = ba0 ∧ 131 = be0):=zH (by have h9:=HE.out; rw [if_neg (by simp)] at h9; injection h9 with h7 h8; exact ⟨h7,h8⟩)
            go_wp2
            go_ret2
            exact ⟨retT HF.out.1 HF.out.2,bt (HALL.out _ HX.out).2.2 zN HBW.out⟩
        · have hq : (rE != 0) = true:=by simpa using h3
          have HF : Hid (ra = ba0 ∧ rE = be0):=zH (by have h9:=HB2.out; rw [if_pos h3] at h9; injection h9 with h7 h8; exact ⟨h7,h8⟩)
          clear hyes hcs hbw
          go_wp2
          go_ret2
          exact ⟨retT HF.out.1 HF.out.2,bt (HALL.out _ HX.out).2.2 zN HBW.out⟩
 · have hq : (r != 0) = true:=by simpa using h0
   have HE : Hid (0 = ba0 ∧ r = be0):=zH (by have h9:=HBR0.out; unfold badR at h9; rw [HR.out,if_pos h0] at h9; injection h9 with h8 h9; exact ⟨h8,h9⟩)
   go_enter Tryz.func24,Tryz.ntmps24
   go_upto_region 1 with (fail)
   rw [← HWW.out]
   go_wp2_with (go_at_call 14; refine (HCH.out _ (HALL.out _ HX.out).2.2).mono ?_; rintro e w1 ⟨rfl,hb⟩; have HXN:=zH (bt HX.out zN hb); clear HX hb c0 c1 c2 c3 c4 c5 c6 c7 c8 c9 c10 d0 d1 d2; have HX:=HXN; clear HXN; obtain ⟨c0,c1,c2,c3,c4,c5,c6,c7,c8,c9,c10⟩:=rbox_of (HALL.out _ HX.out).1; obtain ⟨d0,d1,d2⟩:=trio_of (HALL.out _ HX.out).2.1)
   go_ret2
   exact ⟨retT HE.out.1 HE.out.2,(HALL.out _ HX.out).2.2⟩
set_option maxHeartbeats 8000000 in
set_option maxRecDepth 100000 in
theorem Justice_any (w : World) (V : CV) (C : Circ) (U : TV) (t : Tr) (a : Int) (O : List Int) (h : C.In w V) (ok : C.Ok) (rm : C.Room) (ht : t.In w U) (hO : (checkR C).2 = 0 → IsOrd C O) :
 Calls Tryz.prog 25 #[V.val C.max,.int .i64 a,U.val t.loop] w fun e w' => e = .returned (.tuple #[.int .i64 (justR C O a t).1,.int .i64 (justR C O a t).2]) ∧ Below w.heap.size w w':=by
 obtain ⟨ba0,be0,hbr0⟩ : ∃ x y,justR C O a t = (x,y):=⟨_,_,rfl⟩
 have HBR0:=zH hbr0
 have HRM:=zH rm
 rw [hbr0]
 simp only
 clear hbr0 rm
 have HCH:=zH (fun (wx : World) (hb : Below w.heap.size w wx) => Check_any wx V C (h.below hb) ok)
 have HIN0:=zH (fun (wx : World) (hb : Below w.heap.size w wx) => And.intro (h.below hb) (ht.below hb))
 have HOK:=zH (And.intro ok hO)
 have hone:=And.intro (rowe_one h.i) (And.intro (rowe_one h.l) (And.intro (rowe_one h.c) (And.intro (rowe_one h.a) (rowe_one h.f))))
 have hft:=h.f
 obtain ⟨bA,bc,eb,-,hbr⟩:=h.j.at_
 obtain ⟨fA,fc,ef,-⟩ : ∃ A c,V.f = .slice A C.fairness.length c ∧ True:=by obtain ⟨A,c,e,_⟩:=h.f; exact ⟨A,c,e,trivial⟩
 obtain ⟨iA,ic,ei,_⟩:=ht.i
 obtain ⟨rA,rc,er,hrm,-⟩:=ht.r.at_
 obtain ⟨Vi,Vl,Vo,Vb,Vc,Vj,Vf,Va,Vs,Vt⟩:=V
 obtain ⟨Ui,Ur⟩:=U
 simp only at eb ef ei er hone hft
 subst eb ef ei er
 obtain ⟨m,hmm⟩ : ∃ m,C.max = m:=⟨_,rfl⟩
 obtain ⟨n,hn⟩ : ∃ n,t.rows.length = n:=⟨_,rfl⟩
 obtain ⟨il,hil⟩ : ∃ n,t.init.length = n:=⟨_,rfl⟩
 obtain ⟨lp,hlp⟩ : ∃ lp,t.loop = lp:=⟨_,rfl⟩
 obtain ⟨bn,hbn⟩ : ∃ k,C.justice.length = k:=⟨_,rfl⟩
 obtain ⟨fn,hfn⟩ : ∃ k,C.fairness.length = k:=⟨_,rfl⟩
 rw [hmm,hbn,hfn] at HCH
 rw [hbn,hfn,hn,hil] at HIN0
 rw [hfn] at hft
 rw [hmm,hn,hil,hlp,hbn,hfn]
 have HMM:=zH (And.intro hmm (And.intro hn (And.intro hlp (And.intro hbn hfn))))
 have HONE:=zH hone
 have HFT:=zH hft
 have HBR:=zH hbr
 unfold maxLen at hrm
 rw [hn] at hrm
 obtain ⟨r,hr⟩ : ∃ r,(checkR C).2 = r:=⟨_,rfl⟩
 rw [hr] at HCH
 have HR:=zH hr
 clear h ok ht hO hone hft hbr hmm hn hil hlp hbn hfn hr
 obtain ⟨W0,hW⟩ : ∃ W,W = (w.alloc (.cells #[.int .i64 m,Vi,Vl,Vo,Vb,Vc,.slice bA bn bc,.slice fA fn fc,Va,Vs,Vt] 29)).alloc (.cells #[.slice iA il ic,.slice rA n rc,.int .i64 lp] 33):=⟨_,rfl⟩
 have HALL : Hid (∀ wz,Below W0.heap.size W0 wz → Blk wz w.heap.size 29 #[.int .i64 m,Vi,Vl,Vo,Vb,Vc,.slice bA bn bc,.slice fA fn fc,Va,Vs,Vt] ∧ Blk wz (w.heap.size + 1) 33 #[.slice iA il ic,.slice rA n rc,.int .i64 lp] ∧ Below w.heap.size w wz):=zH (fun wz hb => by
  rw [hW] at hb
  have h1 : Below w.heap.size w wz:=(((Below.refl w.heap.size w).alloc zN _).alloc (by simp) _).trans (hb.mono (by simp; omega))
  have e1:=((Blk.new w 29 #[.int .i64 m,Vi,Vl,Vo,Vb,Vc,.slice bA bn bc,.slice fA fn fc,Va,Vs,Vt]).alloc (.cells #[.slice iA il ic,.slice rA n rc,.int .i64 lp] 33)).below hb (by simp; omega)
  have e2:=(Blk.new (w.alloc (.cells #[.int .i64 m,Vi,Vl,Vo,Vb,Vc,.slice bA bn bc,.slice fA fn fc,Va,Vs,Vt] 29)) 33 #[.slice iA il ic,.slice rA n rc,.int .i64 lp]).below hb (by simp)
  rw [show (w.alloc (.cells #[.int .i64 m,Vi,Vl,Vo,Vb,Vc,.slice bA bn bc,.slice fA fn fc,Va,Vs,Vt] 29)).heap.size = w.heap.size + 1 by simp] at e2
  exact ⟨e1,e2,h1⟩)
 have HX : Hid (Below W0.heap.size W0 W0):=zH (Below.refl _ _)
 obtain ⟨c0,c1,c2,c3,c4,c5,c6,c7,c8,c9,c10⟩:=rbox_of (HALL.out _ HX.out).1
 obtain ⟨d0,d1,d2⟩:=trio_of (HALL.out _ HX.out).2.1
 have HWW:=zH hW
 clear hW
 by_cases h0 : r = 0
 · subst h0
   have HB1 : Hid ((if a < 0 ∨ (bn : Int) ≤ a then ((0 : Int),(5 : Int)) else if (walkR C O t).2 ≠ 0 then walkR C O t else if closesB C O t = false then ((n : Int) - 1,132) else if missF (cameS (mustOf C a) ((valsT C O t).drop lp.toNat)) ≠ -1 then (missF (cameS (mustOf C a) ((valsT C O t).drop lp.toNat)),133) else (lp,0)) = (ba0,be0)):=zH (by
    have h9:=HBR0.out
    unfold justR at h9
    rw [if_neg (by rw [HR.out]; simp),HMM.out.2.1,HMM.out.2.2.1,HMM.out.2.2.2.1] at h9
    exact h9)
   clear HBR0
   by_cases h1 : a < 0
   · have HE : Hid (0 = ba0 ∧ 5 = be0):=zH (by have h9:=HB1.out; rw [if_pos (.inl h1)] at h9; injection h9 with h8 h9; exact ⟨h8,h9⟩)
     go_enter Tryz.func25,Tryz.ntmps25
     go_upto_region 1 with (fail)
     rw [← HWW.out]
     go_wp2_with (go_at_call 14; refine (HCH.out _ (HALL.out _ HX.out).2.2).mono ?_; rintro e w1 ⟨rfl,hb⟩; have HXN:=zH (bt HX.out zN hb); clear HX hb c0 c1 c2 c3 c4 c5 c6 c7 c8 c9 c10 d0 d1 d2; have HX:=HXN; clear HXN; obtain ⟨c0,c1,c2,c3,c4,c5,c6,c7,c8,c9,c10⟩:=rbox_of (HALL.out _ HX.out).1; obtain ⟨d0,d1,d2⟩:=trio_of (HALL.out _ HX.out).2.1)
     go_ret2
     exact ⟨retT HE.out.1 HE.out.2,(HALL.out _ HX.out).2.2⟩
   · by_cases h2 : (bn : Int) ≤ a
     · have HE : Hid (0 = ba0 ∧ 5 = be0):=zH (by have h9:=HB1.out; rw [if_pos (.inr h2)] at h9; injection h9 with h8 h9; exact ⟨h8,h9⟩)
       go_enter Tryz.func25,Tryz.ntmps25
       go_upto_region 1 with (fail)
       rw [← HWW.out]
       go_wp2_with (go_at_call 14; refine (HCH.out _ (HALL.out _ HX.out).2.2).mono ?_; rintro e w1 ⟨rfl,hb⟩; have HXN:=zH (bt HX.out zN hb); clear HX hb c0 c1 c2 c3 c4 c5 c6 c7 c8 c9 c10 d0 d1 d2; have HX:=HXN; clear HXN; obtain ⟨c0,c1,c2,c3,c4,c5,c6,c7,c8,c9,c10⟩:=rbox_of (HALL.out _ HX.out).1; obtain ⟨d0,d1,d2⟩:=trio_of (HALL.out _ HX.out).2.1)
       go_ret2
       exact ⟨retT HE.out.1 HE.out.2,(HALL.out _ HX.out).2.2⟩
     · obtain ⟨j,rfl⟩ : ∃ j : Nat,a = (j : Int):=⟨a.toNat,by omega⟩
       have hib : j < bn:=by omega
       obtain ⟨ls,hl⟩ : ∃ l,C.justice[j]? = some l:=⟨_,List.getElem?_eq_getElem (by rw [HMM.out.2.2.2.1]; exact hib)⟩
       obtain ⟨jb,jo,u,e,hbb,hce,hur⟩:=HBR.out j ls hl
       subst e
       have hur2:=hur
       obtain ⟨jA,jc,rfl,_⟩:=hur2
       obtain ⟨jn,hjn⟩ : ∃ k,ls.length = k:=⟨_,rfl⟩
       rw [hjn] at hce hur
       have HLR:=zH (fun (wx : World) (hb : Below w.heap.size w wx) => And.intro (hur.below hb) (HFT.out.below hb))
       have HCE:=zH (fun (wx : World) (hb : Below w.heap.size w wx) => (hb.cell (p:=⟨jb,jo + j,none⟩) hbb).trans hce)
       obtain ⟨ra,rE,hwr⟩ : ∃ x y,walkR C O t = (x,y):=⟨_,_,rfl⟩
       have HWR:=zH hwr
       have HMU : Hid (mustOf C (j : Int) = ls ++ C.fairness):=zH (by unfold mustOf; simp [List.getD,hl])
       have HB2 : Hid ((if rE ≠ 0 then (ra,rE) else if closesB C O t = false then ((n : Int) - 1,132) else if missF (cameS (ls ++ C.fairness) ((valsT C O t).drop lp.toNat)) ≠ -1 then (missF (cameS (ls ++ C.fairness) ((valsT C O t).drop lp.toNat)),133) else (lp,0)) = (ba0,be0)):=zH (by
        have h9:=HB1.out
        rw [if_neg (by omega),hwr,HMU.out] at h9
        exact h9)
       have hck:=HR.out
       have hus:=watch_uses hck
       have hrt:=right_of hck
       have hlm:=List.mem_of_getElem? hl
       have hln : ls.length ≤ 16384:=Nat.le_trans (sumL_mem hlm) (sum_ok hck HRM.out)
       have HCK:=zH (And.intro (watch_check (ls:=ls) (fs:=C.fairness) hck (fun z hz => hus.j _ hlm z hz) (fun z hz => hus.f z hz) hln hrt.nf) (And.intro (watch_ok (ls:=ls) (fs:=C.fairness) HOK.out.1 (fun z hz => HOK.out.1.j _ hlm z hz) HOK.out.1.f) (And.intro (watch_room (ls:=ls) (fs:=C.fairness) hck hln hrt.nf) (And.intro (HOK.out.2 hck) (And.intro hln hrt.nf)))))
       have HJN:=zH hjn
       have hw9 : IntKind.i64.wrap ((n : Int) - 1) = (n : Int) - 1:=by rw [IntKind.wrap_i64] <;> omega
       have hi0 : (0 : Int) ≤ (j : Int):=by omega
       have hi1 : ¬ (j : Int) < 0:=by omega
       have hi2 : (j : Int) < (bn : Int):=by omega
       clear h1 hl hce hur hwr hck hus hrt hlm hln HB1 HBR HRM
       go_enter Tryz.func25,Tryz.ntmps25
       go_upto_region 1 with (fail)
       rw [← HWW.out]
       go_upto_region 6 with (go_at_call 14; refine (HCH.out _ (HALL.out _ HX.out).2.2).mono ?_; rintro e w1 ⟨rfl,hb⟩; have HXN:=zH (bt HX.out zN hb); clear HX hb c0 c1 c2 c3 c4 c5 c6 c7 c8 c9 c10 d0 d1 d2; have HX:=HXN; clear HXN; obtain ⟨c0,c1,c2,c3,c4,c5,c6,c7,c8,c9,c10⟩:=rbox_of (HALL.out _ HX.out).1; obtain ⟨d0,d1,d2⟩:=trio_of (HALL.out _ HX.out).2.1)
       have HDX : Hid (∀ wz,Below w1.heap.size w1 wz → Below W0.heap.size W0 wz):=zH (fun wz hz => bt HX.out zN hz)
       have HIN : Hid (∀ wx,Below w1.heap.size w1 wx → C.In wx ⟨Vi,Vl,Vo,Vb,Vc,.slice (some ⟨jb,jo,none⟩) bn bc,.slice fA fn fc,Va,Vs,Vt⟩ ∧ t.In wx ⟨.slice iA il ic,.slice rA n rc⟩):=zH (fun wx hx => HIN0.out wx (HALL.out _ (HDX.out _ hx)).2.2)
       go_cut [6,7,10] (fun x y p wx => ∃ ba,x = .int .i64 ra ∧ y = .int .i64 rE ∧ p = .pointer (some ⟨ba,0,none⟩) ∧ WalkP w1 wx ⟨Vi,Vl,Vo,Vb,Vc,.slice (some ⟨jb,jo,none⟩) bn bc,.slice fA fn fc,Va,Vs,Vt⟩ C ls C.fairness (.slice jA jn jc) (.slice fA fn fc) m ⟨.slice iA il ic,.slice rA n rc⟩ t lp O lp.toNat ba n (jn + fn) rE)
       case first =>
        have HSS : Hid (∀ wz,Below w1.heap.size w1 wz → wz.cell? ⟨w.heap.size,0,none⟩ = some (.int .i64 m) ∧ wz.cell? ⟨w.heap.size,1,none⟩ = some Vi ∧ wz.cell? ⟨w.heap.size,2,none⟩ = some Vl ∧ wz.cell? ⟨w.heap.size,3,none⟩ = some Vo ∧ wz.cell? ⟨w.heap.size,4,none⟩ = some Vb ∧ wz.cell? ⟨w.heap.size,5,none⟩ = some Vc ∧ wz.cell? ⟨w.heap.size,6,none⟩ = some (.slice (some ⟨jb,jo,none⟩) bn bc) ∧ wz.cell? ⟨w.heap.size,7,none⟩ = some (.slice fA fn fc) ∧ wz.cell? ⟨w.heap.size,8,none⟩ = some Va ∧ wz.cell? ⟨w.heap.size,9,none⟩ = some Vs ∧ wz.cell? ⟨w.heap.size,10,none⟩ = some Vt ∧ wz.cell? ⟨w.heap.size + 1,0,none⟩ = some (.slice iA il ic) ∧ wz.cell? ⟨w.heap.size + 1,1,none⟩ = some (.slice rA n rc) ∧ wz.cell? ⟨w.heap.size + 1,2,none⟩ = some (.int .i64 lp) ∧ wz.cell? ⟨jb,jo + j,none⟩ = some (.slice jA jn jc)):=zH (fun wz hz => by
         have h9:=HALL.out _ (HDX.out _ hz)
         obtain ⟨a0,a1,a2,a3,a4,a5,a6,a7,a8,a9,a10⟩:=rbox_of h9.1
         obtain ⟨b0,b1,b2⟩:=trio_of h9.2.1
         exact ⟨a0,a1,a2,a3,a4,a5,a6,a7,a8,a9,a10,b0,b1,b2,HCE.out _ h9.2.2⟩)
        have HWO : Hid (∀ wx,Below w1.heap.size w1 wx → ∀ gj,Blk wx gj 22 #[.slice jA jn jc] → Calls Tryz.prog 15 #[(watchV ⟨Vi,Vl,Vo,Vb,Vc,.slice (some ⟨jb,jo,none⟩) bn bc,.slice fA fn fc,Va,Vs,Vt⟩ gj (.slice fA fn fc)).val m,(TV.mk (.slice iA il ic) (.slice rA n rc)).val lp,.int .i64 lp] wx fun e w' => Below wx.heap.size wx w' ∧ ∃ cs : Array Value,e = .returned (.tuple #[.agg cs,.int .i64 ra,.int .i64 rE]) ∧ (rE ≠ 0 → cs = zeroW) ∧
         (rE = 0 → ∃ gm xs g,cs = walkCells (watchV ⟨Vi,Vl,Vo,Vb,Vc,.slice (some ⟨jb,jo,none⟩) bn bc,.slice fA fn fc,Va,Vs,Vt⟩ gj (.slice fA fn fc)) m ⟨.slice iA il ic,.slice rA n rc⟩ lp (.slice (some ⟨gm,0,none⟩) n n) (.slice (some ⟨g,0,none⟩) (jn + fn) (jn + fn)) ∧ wx.heap.size ≤ gm ∧ MomB w' gm n xs ∧ Moms w' wx.heap.size xs (momsG (watchC C ls C.fairness) O t.init t.rows) ∧ wx.heap.size ≤ g ∧ Tab w' g (cameS (ls ++ C.fairness) ((valsT C O t).drop lp.toNat)))):=zH (fun wx hx gj hgj => by
         have hgj2 : Blk wx gj 22 #[.slice jA ls.length jc]:=by rw [HJN.out]; exact hgj
         have h9:=walkOf_any wx (watchV ⟨Vi,Vl,Vo,Vb,Vc,.slice (some ⟨jb,jo,none⟩) bn bc,.slice fA fn fc,Va,Vs,Vt⟩ gj (.slice fA fn fc)) C ls C.fairness ⟨.slice iA il ic,.slice rA n rc⟩ t lp O gj jA jc (watch_in (HIN.out _ hx).1 hgj (HLR.out _ (HALL.out _ (HDX.out _ hx)).2.2).1 (HLR.out _ (HALL.out _ (HDX.out _ hx)).2.2).2) rfl hgj2 HCK.out.1 HCK.out.2.1 HCK.out.2.2.1 (HIN.out _ hx).2 HCK.out.2.2.2.1 HCK.out.2.2.2.2.1 HCK.out.2.2.2.2.2 (fun h8 => by have h7:=(fits_of h8).l; rw [HMM.out.2.2.1] at h7; exact h7.1)
         rw [HMM.out.1,HWR.out,HMM.out.2.1,HMM.out.2.2.1,HJN.out,HMM.out.2.2.2.2] at h9
         exact h9)
        refine wp_region_T (by kernel_rfl) (fun wz => wz.cell? ⟨w.heap.size,0,none⟩ = some (.int .i64 m) ∧ wz.cell? ⟨w.heap.size,1,none⟩ = some Vi ∧ wz.cell? ⟨w.heap.size,2,none⟩ = some Vl ∧ wz.cell? ⟨w.heap.size,3,none⟩ = some Vo ∧ wz.cell? ⟨w.heap.size,4,none⟩ = some Vb ∧ wz.cell? ⟨w.heap.size,5,none⟩ = some Vc ∧ wz.cell? ⟨w.heap.size,6,none⟩ = some (.slice (some ⟨jb,jo,none⟩) bn bc) ∧ wz.cell? ⟨w.heap.size,7,none⟩ = some (.slice fA fn fc) ∧ wz.cell? ⟨w.heap.size,8,none⟩ = some Va ∧ wz.cell? ⟨w.heap.size,9,none⟩ = some Vs ∧ wz.cell? ⟨w.heap.size,10,none⟩ = some Vt ∧ wz.cell? ⟨w.heap.size + 1,0,none⟩ = some (.slice iA il ic) ∧ wz.cell? ⟨w.heap.size + 1,1,none⟩ = some (.slice rA n rc) ∧ wz.cell? ⟨w.heap.size + 1,2,none⟩ = some (.int .i64 lp) ∧ wz.cell? ⟨jb,jo + j,none⟩ = some (.slice jA jn jc)) 21 ?_
        clear c0 c1 c2 c3 c4 c5 c6 c7 c8 c9 c10 d0 d1 d2
        have HD0 : Hid (Below w1.heap.size w1 w1.drew):=zH (Below.refl _ _).drew
        have HD:=HD0
        have hHeld:=HSS.out _ HD.out
        refine wpAnyT_take (i:=0) (oi:={ dst:=some 30,op:=Op.load 29 (Operand.tmp 3),type:=29,pos:="replay.go:38",after:=#[],guard:=none }) (v:=?v0rj6q1) rfl (by kernel_rfl) (fun _ _ _ h => h) (by rfl) hHeld ?h0rj6q1 ?_
        case h0rj6q1 => (intro w' hSw; (try dsimp only at hSw); go_simp; try with_reducible rfl)
        (try simp only [Act.put,zA,zB,zC])
        refine wpAnyT_take (i:=1) (oi:={ dst:=some 31,op:=Op.fieldAddr 29 (Operand.tmp 3) 6,type:=0,pos:="replay.go:38",after:=#[],guard:=none }) (v:=?v1rj6q1) rfl (by kernel_rfl) (fun _ _ _ h => h) (by rfl) hHeld ?h1rj6q1 ?_
        case h1rj6q1 => (intro w' hSw; (try dsimp only at hSw); go_simp; try with_reducible rfl)
        (try simp only [Act.put,zA,zB,zC])
        refine wpAnyT_take (i:=2) (oi:={ dst:=some 32,op:=Op.load 24 (Operand.tmp 31),type:=24,pos:="replay.go:38",after:=#[{ on:=1,ground:=Ground.data }],guard:=none }) (v:=?v2rj6q1) rfl (by kernel_rfl) (fun _ _ _ h => h) (by rfl) hHeld ?h2rj6q1 ?_
        case h2rj6q1 => (intro w' hSw; (try dsimp only at hSw); go_simp; try with_reducible rfl)
        (try simp only [Act.put,zA,zB,zC])
        refine wpAnyT_take (i:=3) (oi:={ dst:=some 33,op:=Op.move (Operand.tmp 1),type:=3,pos:="replay.go:38",after:=#[],guard:=none }) (v:=?v3rj6q1) rfl (by kernel_rfl) (fun _ _ _ h => h) (by rfl) hHeld ?h3rj6q1 ?_
        case h3rj6q1 => (intro w' hSw; (try dsimp only at hSw); go_simp; try with_reducible rfl)
        (try simp only [Act.put,zA,zB,zC])
        refine wpAnyT_take (i:=4) (oi:={ dst:=some 34,op:=Op.indexAddr 24 (Operand.tmp 32) (Operand.tmp 33),type:=0,pos:="replay.go:38",after:=#[{ on:=2,ground:=Ground.data },{ on:=3,ground:=Ground.data }],guard:=none }) (v:=?v4rj6q1) rfl (by kernel_rfl) (fun _ _ _ h => h) (by rfl) hHeld ?h4rj6q1 ?_
        case h4rj6q1 => (intro w' hSw; (try dsimp only at hSw); go_simp; try with_reducible rfl)
        (try simp only [Act.put,zA,zB,zC])
        refine wpAnyT_take (i:=5) (oi:={ dst:=some 35,op:=Op.load 22 (Operand.tmp 34),type:=22,pos:="replay.go:38",after:=#[{ on:=4,ground:=Ground.data }],guard:=none }) (v:=?v5rj6q1) rfl (by kernel_rfl) (fun _ _ _ h => h) (by rfl) hHeld ?h5rj6q1 ?_
        case h5rj6q1 => (intro w' hSw; (try dsimp only at hSw); go_simp; try with_reducible rfl)
        (try simp only [Act.put,zA,zB,zC])
        refine wpAnyT_take (i:=6) (oi:={ dst:=some 36,op:=Op.fieldAddr 29 (Operand.tmp 3) 7,type:=0,pos:="replay.go:38",after:=#[],guard:=none }) (v:=?v6rj6q1) rfl (by kernel_rfl) (fun _ _ _ h => h) (by rfl) hHeld ?h6rj6q1 ?_
        case h6rj6q1 => (intro w' hSw; (try dsimp only at hSw); go_simp; try with_reducible rfl)
        (try simp only [Act.put,zA,zB,zC])
        refine wpAnyT_take (i:=7) (oi:={ dst:=some 37,op:=Op.load 22 (Operand.tmp 36),type:=22,pos:="replay.go:38",after:=#[{ on:=6,ground:=Ground.data }],guard:=none }) (v:=?v7rj6q1) rfl (by kernel_rfl) (fun _ _ _ h => h) (by rfl) hHeld ?h7rj6q1 ?_
        case h7rj6q1 => (intro w' hSw; (try dsimp only at hSw); go_simp; try with_reducible rfl)
        (try simp only [Act.put,zA,zB,zC])
        refine wpAnyT_take (i:=9) (oi:={ dst:=some 39,op:=Op.load 33 (Operand.tmp 5),type:=33,pos:="replay.go:38",after:=#[],guard:=none }) (v:=?v9rj6q2) rfl (by kernel_rfl) (fun _ _ _ h => h) (by rfl) hHeld ?h9rj6q2 ?_
        case h9rj6q2 => (intro w' hSw; (try dsimp only at hSw); go_simp; try with_reducible rfl)
        (try simp only [Act.put,zA,zB,zC])
        refine wpAnyT_take (i:=10) (oi:={ dst:=some 40,op:=Op.fieldAddr 33 (Operand.tmp 5) 2,type:=0,pos:="replay.go:38",after:=#[],guard:=none }) (v:=?v10rj6q2) rfl (by kernel_rfl) (fun _ _ _ h => h) (by rfl) hHeld ?h10rj6q2 ?_
        case h10rj6q2 => (intro w' hSw; (try dsimp only at hSw); go_simp; try with_reducible rfl)
        (try simp only [Act.put,zA,zB,zC])
        refine wpAnyT_take (i:=11) (oi:={ dst:=some 41,op:=Op.load 3 (Operand.tmp 40),type:=3,pos:="replay.go:38",after:=#[{ on:=10,ground:=Ground.data }],guard:=none }) (v:=?v11rj6q2) rfl (by kernel_rfl) (fun _ _ _ h => h) (by rfl) hHeld ?h11rj6q2 ?_
        case h11rj6q2 => (intro w' hSw; (try dsimp only at hSw); go_simp; try with_reducible rfl)
        (try simp only [Act.put,zA,zB,zC])
        clear hHeld
        refine wpAnyT_twoR (i:=8) (j:=17) (by kernel_rfl) ?faJ1 ?fbJ1
        case faJ1 =>
         refine wpOpTR (i:=8) rfl (fun K hK => ?_)
         go_simp
         go_at_call 16
         have hwt:=watching_any w1.drew ⟨Vi,Vl,Vo,Vb,Vc,.slice (some ⟨jb,jo,none⟩) bn bc,.slice fA fn fc,Va,Vs,Vt⟩ C jA jn jc fA fn fc (HIN.out _ HD.out).1
         rw [HMM.out.1] at hwt
         refine hwt.mono ?_
         clear hwt
         rintro e wa ⟨gj,rfl,_,hj,hb⟩
         have HJ:=zH hj
         clear hj
         have HD2:=zH (bt HD.out zN hb)
         clear HD hb
         have HD:=HD2
         clear HD2
         refine hK.out _ _ (fun _ => HSS.out _ HD.out) ?_
         clear hK K
         (try simp only [Act.put,zA,zB,zC])
         refine wpAnyT_twoR (i:=12) (j:=17) (by kernel_rfl) ?faJ2 ?fbJ2
         case faJ2 =>
          refine wpOpTR (i:=12) rfl (fun K hK => ?_)
          go_simp
          go_at_call 15
          have hwo:=HWO.out wa HD.out gj HJ.out
          refine hwo.mono ?_
          clear hwo
          rintro e wk ⟨hb,cs,rfl,hz,hyes⟩
          have HWY:=zH (And.intro hz hyes)
          clear hz hyes
          have HJ2:=zH (HJ.out.below hb HJ.out.lt)
          clear HJ
          have HJ:=HJ2
          clear HJ2
          have HSC : Hid (w1.heap.size ≤ wa.heap.size):=zH HD.out.size
          have HD2:=zH (bt HD.out zN hb)
          clear HD hb
          have HD:=HD2
          clear HD2
          refine hK.out _ _ (fun _ => HSS.out _ HD.out) ?_
          clear hK K
          (try simp only [Act.put,zA,zB,zC])
          have hHeld:=HSS.out _ HD.out
          refine wpAnyT_take (i:=13) (oi:={ dst:=some 29,op:=Op.move (Operand.tmp 42),type:=54,pos:="replay.go:38",after:=#[{ on:=12,ground:=Ground.data }],guard:=none }) (v:=?v13rj6q3) rfl (by kernel_rfl) (fun _ _ _ h => h) (by rfl) hHeld ?h13rj6q3 ?_
          case h13rj6q3 => (intro w' hSw; (try dsimp only at hSw); go_simp; try with_reducible rfl)
          (try simp only [Act.put,zA,zB,zC])
          refine wpAnyT_take (i:=14) (oi:={ dst:=some 43,op:=Op.extract (Operand.tmp 29) 0,type:=53,pos:="replay.go:38",after:=#[{ on:=13,ground:=Ground.data }],guard:=none }) (v:=?v14rj6q3) rfl (by kernel_rfl) (fun _ _ _ h => h) (by rfl) hHeld ?h14rj6q3 ?_
          case h14rj6q3 => (intro w' hSw; (try dsimp only at hSw); go_simp; try with_reducible rfl)
          (try simp only [Act.put,zA,zB,zC])
          refine wpAnyT_take (i:=15) (oi:={ dst:=some 44,op:=Op.extract (Operand.tmp 29) 1,type:=3,pos:="replay.go:38",after:=#[{ on:=13,ground:=Ground.data },{ on:=18,ground:=Ground.gcOnly Departure.lateStores }],guard:=none }) (v:=?v15rj6q3) rfl (by kernel_rfl) (fun _ _ _ h => h) (by rfl) hHeld ?h15rj6q3 ?_
          case h15rj6q3 => (intro w' hSw; (try dsimp only at hSw); go_simp; try with_reducible rfl)
          (try simp only [Act.put,zA,zB,zC])
          refine wpAnyT_take (i:=16) (oi:={ dst:=some 45,op:=Op.extract (Operand.tmp 29) 2,type:=36,pos:="replay.go:38",after:=#[{ on:=13,ground:=Ground.data },{ on:=19,ground:=Ground.gcOnly Departure.lateStores }],guard:=none }) (v:=?v16rj6q3) rfl (by kernel_rfl) (fun _ _ _ h => h) (by rfl) hHeld ?h16rj6q3 ?_
          case h16rj6q3 => (intro w' hSw; (try dsimp only at hSw); go_simp; try with_reducible rfl)
          (try simp only [Act.put,zA,zB,zC])
          clear hHeld
          refine wpAnyT_one (i:=17) rfl (by kernel_rfl) (fun K hK => ?_)
          go_simp
          obtain ⟨wb,ba,hwb,hba,hb,h2,h3,h4⟩:=box_new wk
          rw [← hwb,← hba]
          have HA:=zH h2
          have HBG : Hid (w1.heap.size ≤ ba):=zH (Nat.le_trans HD.out.size h3)
          have HBO : Hid (wk.heap.size ≤ ba):=zH h3
          have HKB:=zH h4
          have HJ2:=zH (HJ.out.below hb HJ.out.lt)
          clear HJ
          have HJ:=HJ2
          clear HJ2
          have HD2:=zH (bt HD.out zN hb)
          clear HD hb h2 h3 h4 hwb hba
          have HD:=HD2
          clear HD2
          refine hK.out _ _ (fun _ => HSS.out _ HD.out) ?_
          clear hK K
          (try simp only [Act.put,zA,zB,zC])
          refine wpAnyT_one (i:=18) rfl (by kernel_rfl) (fun K hK => ?_)
          rw [if_pos (by rfl)]
          have hsz : cs.size = 16:=by
           by_cases h9 : rE = 0
           · obtain ⟨gm,xs,g,rfl,_⟩:=HWY.out.2 h9; rfl
           · obtain rfl:=HWY.out.1 h9; rfl
          have hon : cs.all (·.oneCell') = true:=by
           have s1 : ∀ a b c,(Value.slice a b c).oneCell' = true:=fun _ _ _ => rfl
           have i1 : ∀ k z,(Value.int k z).oneCell' = true:=fun _ _ => rfl
           by_cases h9 : rE = 0
           · obtain ⟨gm,xs,g,rfl,_⟩:=HWY.out.2 h9
             obtain ⟨o1,o2,o3,o4,o5⟩:=HONE.out
             simp [watchV,s1,i1,o1,o2,o3,o4]
           · obtain rfl:=HWY.out.1 h9
             simp [s1,i1]
          have HP:=zH (walkP_of HD.out HA.out HJ.out HSC.out HBG.out (.inr HBO.out) (fun k hk _ => HKB.out k hk) HWY.out)
          refine wp_store_row 53 (.tmp 10) (.tmp 43) rfl ba cs rfl rfl 53 _ HA.out (by rw [hsz]; kernel_rfl) hsz.symm hon (hK.out _ _ (fun _ => HSS.out _ HP.out.1) ?_)
          clear hK K hsz hon
          (try simp only [Act.put,List.setIfInBounds_toArray])
          have hHeld:=HSS.out _ HP.out.1
          refine wpAnyT_take (i:=19) (oi:={ dst:=some 6,op:=Op.assign (Operand.tmp 44),type:=3,pos:="replay.go:38",after:=#[{ on:=15,ground:=Ground.data },{ on:=18,ground:=Ground.chain },{ on:=0,ground:=Ground.phase },{ on:=1,ground:=Ground.phase },{ on:=2,ground:=Ground.phase },{ on:=3,ground:=Ground.phase },{ on:=4,ground:=Ground.phase },{ on:=5,ground:=Ground.phase },{ on:=6,ground:=Ground.phase },{ on:=7,ground:=Ground.phase },{ on:=8,ground:=Ground.phase },{ on:=9,ground:=Ground.phase },{ on:=10,ground:=Ground.phase },{ on:=11,ground:=Ground.phase },{ on:=12,ground:=Ground.phase },{ on:=13,ground:=Ground.phase },{ on:=14,ground:=Ground.phase },{ on:=15,ground:=Ground.phase },{ on:=16,ground:=Ground.textOnly Departure.lateStores },{ on:=17,ground:=Ground.phase },{ on:=18,ground:=Ground.phase }],guard:=none }) (v:=?v19rj6q4) rfl (by kernel_rfl) (fun _ _ _ h => h) (by rfl) hHeld ?h19rj6q4 ?_
          case h19rj6q4 => (intro w' hSw; (try dsimp only at hSw); go_simp; try with_reducible rfl)
          (try simp only [Act.put])
          refine wpAnyT_take (i:=20) (oi:={ dst:=some 7,op:=Op.assign (Operand.tmp 45),type:=36,pos:="replay.go:38",after:=#[{ on:=16,ground:=Ground.data },{ on:=19,ground:=Ground.chain },{ on:=0,ground:=Ground.phase },{ on:=1,ground:=Ground.phase },{ on:=2,ground:=Ground.phase },{ on:=3,ground:=Ground.phase },{ on:=4,ground:=Ground.phase },{ on:=5,ground:=Ground.phase },{ on:=6,ground:=Ground.phase },{ on:=7,ground:=Ground.phase },{ on:=8,ground:=Ground.phase },{ on:=9,ground:=Ground.phase },{ on:=10,ground:=Ground.phase },{ on:=11,ground:=Ground.phase },{ on:=12,ground:=Ground.phase },{ on:=13,ground:=Ground.phase },{ on:=14,ground:=Ground.phase },{ on:=15,ground:=Ground.phase },{ on:=16,ground:=Ground.phase },{ on:=17,ground:=Ground.phase },{ on:=18,ground:=Ground.phase },{ on:=19,ground:=Ground.phase }],guard:=none }) (v:=?v20rj6q4) rfl (by kernel_rfl) (fun _ _ _ h => h) (by rfl) hHeld ?h20rj6q4 ?_
          case h20rj6q4 => (intro w' hSw; (try dsimp only at hSw); go_simp; try with_reducible rfl)
          (try simp only [Act.put])
          clear hHeld
          refine wpAnyT_done (by kernel_rfl) ?_
          go_wp2_with fail
          go_meet
          exact ⟨ba,rfl,rfl,rfl,HP.out⟩
         case fbJ2 =>
          refine wpOpTR (i:=17) rfl (fun K hK => ?_)
          go_simp
          obtain ⟨wb,ba,hwb,hba,hb,h2,h3,h4⟩:=box_new wa
          rw [← hwb,← hba]
          have HA:=zH h2
          have HBG : Hid (w1.heap.size ≤ ba):=zH (Nat.le_trans HD.out.size h3)
          have HJ2:=zH (HJ.out.below hb HJ.out.lt)
          clear HJ
          have HJ:=HJ2
          clear HJ2
          have HD2:=zH (bt HD.out zN hb)
          clear HD hb h2 h3 h4 hwb hba
          have HD:=HD2
          clear HD2
          refine hK.out _ _ (fun _ => HSS.out _ HD.out) ?_
          clear hK K
          (try simp only [Act.put,zA,zB,zC])
          refine wpAnyT_one (i:=12) rfl (by kernel_rfl) (fun K hK => ?_)
          go_simp
          go_at_call 15
          have hwo:=HWO.out wb HD.out gj HJ.out
          refine hwo.mono ?_
          clear hwo
          rintro e wk ⟨hb,cs,rfl,hz,hyes⟩
          have HWY:=zH (And.intro hz hyes)
          clear hz hyes
          have HJ2:=zH (HJ.out.below hb HJ.out.lt)
          clear HJ
          have HJ:=HJ2
          clear HJ2
          have HSC : Hid (w1.heap.size ≤ wb.heap.size):=zH HD.out.size
          have HBO : Hid (ba < wb.heap.size):=zH HA.out.lt
          have HA2:=zH (HA.out.below hb HA.out.lt)
          clear HA
          have HA:=HA2
          clear HA2
          have HD2:=zH (bt HD.out zN hb)
          clear HD hb
          have HD:=HD2
          clear HD2
          refine hK.out _ _ (fun _ => HSS.out _ HD.out) ?_
          clear hK K
          (try simp only [Act.put,zA,zB,zC])
          have hHeld:=HSS.out _ HD.out
          refine wpAnyT_take (i:=13) (oi:={ dst:=some 29,op:=Op.move (Operand.tmp 42),type:=54,pos:="replay.go:38",after:=#[{ on:=12,ground:=Ground.data }],guard:=none }) (v:=?v13rj6q5) rfl (by kernel_rfl) (fun _ _ _ h => h) (by rfl) hHeld ?h13rj6q5 ?_
          case h13rj6q5 => (intro w' hSw; (try dsimp only at hSw); go_simp; try with_reducible rfl)
          (try simp only [Act.put,zA,zB,zC])
          refine wpAnyT_take (i:=14) (oi:={ dst:=some 43,op:=Op.extract (Operand.tmp 29) 0,type:=53,pos:="replay.go:38",after:=#[{ on:=13,ground:=Ground.data }],guard:=none }) (v:=?v14rj6q5) rfl (by kernel_rfl) (fun _ _ _ h => h) (by rfl) hHeld ?h14rj6q5 ?_
          case h14rj6q5 => (intro w' hSw; (try dsimp only at hSw); go_simp; try with_reducible rfl)
          (try simp only [Act.put,zA,zB,zC])
          refine wpAnyT_take (i:=15) (oi:={ dst:=some 44,op:=Op.extract (Operand.tmp 29) 1,type:=3,pos:="replay.go:38",after:=#[{ on:=13,ground:=Ground.data },{ on:=18,ground:=Ground.gcOnly Departure.lateStores }],guard:=none }) (v:=?v15rj6q5) rfl (by kernel_rfl) (fun _ _ _ h => h) (by rfl) hHeld ?h15rj6q5 ?_
          case h15rj6q5 => (intro w' hSw; (try dsimp only at hSw); go_simp; try with_reducible rfl)
          (try simp only [Act.put,zA,zB,zC])
          refine wpAnyT_take (i:=16) (oi:={ dst:=some 45,op:=Op.extract (Operand.tmp 29) 2,type:=36,pos:="replay.go:38",after:=#[{ on:=13,ground:=Ground.data },{ on:=19,ground:=Ground.gcOnly Departure.lateStores }],guard:=none }) (v:=?v16rj6q5) rfl (by kernel_rfl) (fun _ _ _ h => h) (by rfl) hHeld ?h16rj6q5 ?_
          case h16rj6q5 => (intro w' hSw; (try dsimp only at hSw); go_simp; try with_reducible rfl)
          (try simp only [Act.put,zA,zB,zC])
          clear hHeld
          refine wpAnyT_one (i:=18) rfl (by kernel_rfl) (fun K hK => ?_)
          rw [if_pos (by rfl)]
          have hsz : cs.size = 16:=by
           by_cases h9 : rE = 0
           · obtain ⟨gm,xs,g,rfl,_⟩:=HWY.out.2 h9; rfl
           · obtain rfl:=HWY.out.1 h9; rfl
          have hon : cs.all (·.oneCell') = true:=by
           have s1 : ∀ a b c,(Value.slice a b c).oneCell' = true:=fun _ _ _ => rfl
           have i1 : ∀ k z,(Value.int k z).oneCell' = true:=fun _ _ => rfl
           by_cases h9 : rE = 0
           · obtain ⟨gm,xs,g,rfl,_⟩:=HWY.out.2 h9
             obtain ⟨o1,o2,o3,o4,o5⟩:=HONE.out
             simp [watchV,s1,i1,o1,o2,o3,o4]
           · obtain rfl:=HWY.out.1 h9
             simp [s1,i1]
          have HP:=zH (walkP_of HD.out HA.out HJ.out HSC.out HBG.out (.inl HBO.out) (fun k _ _ => rfl) HWY.out)
          refine wp_store_row 53 (.tmp 10) (.tmp 43) rfl ba cs rfl rfl 53 _ HA.out (by rw [hsz]; kernel_rfl) hsz.symm hon (hK.out _ _ (fun _ => HSS.out _ HP.out.1) ?_)
          clear hK K hsz hon
          (try simp only [Act.put,List.setIfInBounds_toArray])
          have hHeld:=HSS.out _ HP.out.1
          refine wpAnyT_take (i:=19) (oi:={ dst:=some 6,op:=Op.assign (Operand.tmp 44),type:=3,pos:="replay.go:38",after:=#[{ on:=15,ground:=Ground.data },{ on:=18,ground:=Ground.chain },{ on:=0,ground:=Ground.phase },{ on:=1,ground:=Ground.phase },{ on:=2,ground:=Ground.phase },{ on:=3,ground:=Ground.phase },{ on:=4,ground:=Ground.phase },{ on:=5,ground:=Ground.phase },{ on:=6,ground:=Ground.phase },{ on:=7,ground:=Ground.phase },{ on:=8,ground:=Ground.phase },{ on:=9,ground:=Ground.phase },{ on:=10,ground:=Ground.phase },{ on:=11,ground:=Ground.phase },{ on:=12,ground:=Ground.phase },{ on:=13,ground:=Ground.phase },{ on:=14,ground:=Ground.phase },{ on:=15,ground:=Ground.phase },{ on:=16,ground:=Ground.textOnly Departure.lateStores },{ on:=17,ground:=Ground.phase },{ on:=18,ground:=Ground.phase }],guard:=none }) (v:=?v19rj6q6) rfl (by kernel_rfl) (fun _ _ _ h => h) (by rfl) hHeld ?h19rj6q6 ?_
          case h19rj6q6 => (intro w' hSw; (try dsimp only at hSw); go_simp; try with_reducible rfl)
          (try simp only [Act.put])
          refine wpAnyT_take (i:=20) (oi:={ dst:=some 7,op:=Op.assign (Operand.tmp 45),type:=36,pos:="replay.go:38",after:=#[{ on:=16,ground:=Ground.data },{ on:=19,ground:=Ground.chain },{ on:=0,ground:=Ground.phase },{ on:=1,ground:=Ground.phase },{ on:=2,ground:=Ground.phase },{ on:=3,ground:=Ground.phase },{ on:=4,ground:=Ground.phase },{ on:=5,ground:=Ground.phase },{ on:=6,ground:=Ground.phase },{ on:=7,ground:=Ground.phase },{ on:=8,ground:=Ground.phase },{ on:=9,ground:=Ground.phase },{ on:=10,ground:=Ground.phase },{ on:=11,ground:=Ground.phase },{ on:=12,ground:=Ground.phase },{ on:=13,ground:=Ground.phase },{ on:=14,ground:=Ground.phase },{ on:=15,ground:=Ground.phase },{ on:=16,ground:=Ground.phase },{ on:=17,ground:=Ground.phase },{ on:=18,ground:=Ground.phase },{ on:=19,ground:=Ground.phase }],guard:=none }) (v:=?v20rj6q6) rfl (by kernel_rfl) (fun _ _ _ h => h) (by rfl) hHeld ?h20rj6q6 ?_
          case h20rj6q6 => (intro w' hSw; (try dsimp only at hSw); go_simp; try with_reducible rfl)
          (try simp only [Act.put])
          clear hHeld
          refine wpAnyT_done (by kernel_rfl) ?_
          go_wp2_with fail
          go_meet
          exact ⟨ba,rfl,rfl,rfl,HP.out⟩
        case fbJ1 =>
         refine wpOpTR (i:=17) rfl (fun K hK => ?_)
         go_simp
         obtain ⟨wb,ba,hwb,hba,hb,h2,h3⟩:=box_newD w1
         rw [← hwb,← hba]
         have HA:=zH h2
         have HBG : Hid (w1.heap.size ≤ ba):=zH h3
         clear HD
         have HD:=zH hb
         clear hb h2 h3 hwb hba
         refine hK.out _ _ (fun _ => HSS.out _ HD.out) ?_
         clear hK K
         (try simp only [Act.put,zA,zB,zC])
         refine wpAnyT_one (i:=8) rfl (by kernel_rfl) (fun K hK => ?_)
         go_simp
         go_at_call 16
         have hwt:=watching_any wb ⟨Vi,Vl,Vo,Vb,Vc,.slice (some ⟨jb,jo,none⟩) bn bc,.slice fA fn fc,Va,Vs,Vt⟩ C jA jn jc fA fn fc (HIN.out _ HD.out).1
         rw [HMM.out.1] at hwt
         refine hwt.mono ?_
         clear hwt
         rintro e wa ⟨gj,rfl,_,hj,hb⟩
         have HJ:=zH hj
         clear hj
         have HA2:=zH (HA.out.below hb HA.out.lt)
         clear HA
         have HA:=HA2
         clear HA2
         have HD2:=zH (bt HD.out zN hb)
         clear HD hb
         have HD:=HD2
         clear HD2
         refine hK.out _ _ (fun _ => HSS.out _ HD.out) ?_
         clear hK K
         (try simp only [Act.put,zA,zB,zC])
         refine wpAnyT_one (i:=12) rfl (by kernel_rfl) (fun K hK => ?_)
         go_simp
         go_at_call 15
         have hwo:=HWO.out wa HD.out gj HJ.out
         refine hwo.mono ?_
         clear hwo
         rintro e wk ⟨hb,cs,rfl,hz,hyes⟩
         have HWY:=zH (And.intro hz hyes)
         clear hz hyes
         have HJ2:=zH (HJ.out.below hb HJ.out.lt)
         clear HJ
         have HJ:=HJ2
         clear HJ2
         have HSC : Hid (w1.heap.size ≤ wa.heap.size):=zH HD.out.size
         have HBO : Hid (ba < wa.heap.size):=zH HA.out.lt
         have HA2:=zH (HA.out.below hb HA.out.lt)
         clear HA
         have HA:=HA2
         clear HA2
         have HD2:=zH (bt HD.out zN hb)
         clear HD hb
         have HD:=HD2
         clear HD2
         refine hK.out _ _ (fun _ => HSS.out _ HD.out) ?_
         clear hK K
         (try simp only [Act.put,zA,zB,zC])
         have hHeld:=HSS.out _ HD.out
         refine wpAnyT_take (i:=13) (oi:={ dst:=some 29,op:=Op.move (Operand.tmp 42),type:=54,pos:="replay.go:38",after:=#[{ on:=12,ground:=Ground.data }],guard:=none }) (v:=?v13rj6q7) rfl (by kernel_rfl) (fun _ _ _ h => h) (by rfl) hHeld ?h13rj6q7 ?_
         case h13rj6q7 => (intro w' hSw; (try dsimp only at hSw); go_simp; try with_reducible rfl)
         (try simp only [Act.put,zA,zB,zC])
         refine wpAnyT_take (i:=14) (oi:={ dst:=some 43,op:=Op.extract (Operand.tmp 29) 0,type:=53,pos:="replay.go:38",after:=#[{ on:=13,ground:=Ground.data }],guard:=none }) (v:=?v14rj6q7) rfl (by kernel_rfl) (fun _ _ _ h => h) (by rfl) hHeld ?h14rj6q7 ?_
         case h14rj6q7 => (intro w' hSw; (try dsimp only at hSw); go_simp; try with_reducible rfl)
         (try simp only [Act.put,zA,zB,zC])
         refine wpAnyT_take (i:=15) (oi:={ dst:=some 44,op:=Op.extract (Operand.tmp 29) 1,type:=3,pos:="replay.go:38",after:=#[{ on:=13,ground:=Ground.data },{ on:=18,ground:=Ground.gcOnly Departure.lateStores }],guard:=none }) (v:=?v15rj6q7) rfl (by kernel_rfl) (fun _ _ _ h => h) (by rfl) hHeld ?h15rj6q7 ?_
         case h15rj6q7 => (intro w' hSw; (try dsimp only at hSw); go_simp; try with_reducible rfl)
         (try simp only [Act.put,zA,zB,zC])
         refine wpAnyT_take (i:=16) (oi:={ dst:=some 45,op:=Op.extract (Operand.tmp 29) 2,type:=36,pos:="replay.go:38",after:=#[{ on:=13,ground:=Ground.data },{ on:=19,ground:=Ground.gcOnly Departure.lateStores }],guard:=none }) (v:=?v16rj6q7) rfl (by kernel_rfl) (fun _ _ _ h => h) (by rfl) hHeld ?h16rj6q7 ?_
         case h16rj6q7 => (intro w' hSw; (try dsimp only at hSw); go_simp; try with_reducible rfl)
         (try simp only [Act.put,zA,zB,zC])
         clear hHeld
         refine wpAnyT_one (i:=18) rfl (by kernel_rfl) (fun K hK => ?_)
         rw [if_pos (by rfl)]
         have hsz : cs.size = 16:=by
          by_cases h9 : rE = 0
          · obtain ⟨gm,xs,g,rfl,_⟩:=HWY.out.2 h9; rfl
          · obtain rfl:=HWY.out.1 h9; rfl
         have hon : cs.all (·.oneCell') = true:=by
          have s1 : ∀ a b c,(Value.slice a b c).oneCell' = true:=fun _ _ _ => rfl
          have i1 : ∀ k z,(Value.int k z).oneCell' = true:=fun _ _ => rfl
          by_cases h9 : rE = 0
          · obtain ⟨gm,xs,g,rfl,_⟩:=HWY.out.2 h9
            obtain ⟨o1,o2,o3,o4,o5⟩:=HONE.out
            simp [watchV,s1,i1,o1,o2,o3,o4]
          · obtain rfl:=HWY.out.1 h9
            simp [s1,i1]
         have HP:=zH (walkP_of HD.out HA.out HJ.out HSC.out HBG.out (.inl HBO.out) (fun k _ _ => rfl) HWY.out)
         refine wp_store_row 53 (.tmp 10) (.tmp 43) rfl ba cs rfl rfl 53 _ HA.out (by rw [hsz]; kernel_rfl) hsz.symm hon (hK.out _ _ (fun _ => HSS.out _ HP.out.1) ?_)
         clear hK K hsz hon
         (try simp only [Act.put,List.setIfInBounds_toArray])
         have hHeld:=HSS.out _ HP.out.1
         refine wpAnyT_take (i:=19) (oi:={ dst:=some 6,op:=Op.assign (Operand.tmp 44),type:=3,pos:="replay.go:38",after:=#[{ on:=15,ground:=Ground.data },{ on:=18,ground:=Ground.chain },{ on:=0,ground:=Ground.phase },{ on:=1,ground:=Ground.phase },{ on:=2,ground:=Ground.phase },{ on:=3,ground:=Ground.phase },{ on:=4,ground:=Ground.phase },{ on:=5,ground:=Ground.phase },{ on:=6,ground:=Ground.phase },{ on:=7,ground:=Ground.phase },{ on:=8,ground:=Ground.phase },{ on:=9,ground:=Ground.phase },{ on:=10,ground:=Ground.phase },{ on:=11,ground:=Ground.phase },{ on:=12,ground:=Ground.phase },{ on:=13,ground:=Ground.phase },{ on:=14,ground:=Ground.phase },{ on:=15,ground:=Ground.phase },{ on:=16,ground:=Ground.textOnly Departure.lateStores },{ on:=17,ground:=Ground.phase },{ on:=18,ground:=Ground.phase }],guard:=none }) (v:=?v19rj6q8) rfl (by kernel_rfl) (fun _ _ _ h => h) (by rfl) hHeld ?h19rj6q8 ?_
         case h19rj6q8 => (intro w' hSw; (try dsimp only at hSw); go_simp; try with_reducible rfl)
         (try simp only [Act.put])
         refine wpAnyT_take (i:=20) (oi:={ dst:=some 7,op:=Op.assign (Operand.tmp 45),type:=36,pos:="replay.go:38",after:=#[{ on:=16,ground:=Ground.data },{ on:=19,ground:=Ground.chain },{ on:=0,ground:=Ground.phase },{ on:=1,ground:=Ground.phase },{ on:=2,ground:=Ground.phase },{ on:=3,ground:=Ground.phase },{ on:=4,ground:=Ground.phase },{ on:=5,ground:=Ground.phase },{ on:=6,ground:=Ground.phase },{ on:=7,ground:=Ground.phase },{ on:=8,ground:=Ground.phase },{ on:=9,ground:=Ground.phase },{ on:=10,ground:=Ground.phase },{ on:=11,ground:=Ground.phase },{ on:=12,ground:=Ground.phase },{ on:=13,ground:=Ground.phase },{ on:=14,ground:=Ground.phase },{ on:=15,ground:=Ground.phase },{ on:=16,ground:=Ground.phase },{ on:=17,ground:=Ground.phase },{ on:=18,ground:=Ground.phase },{ on:=19,ground:=Ground.phase }],guard:=none }) (v:=?v20rj6q8) rfl (by kernel_rfl) (fun _ _ _ h => h) (by rfl) hHeld ?h20rj6q8 ?_
         case h20rj6q8 => (intro w' hSw; (try dsimp only at hSw); go_simp; try with_reducible rfl)
         (try simp only [Act.put])
         clear hHeld
         refine wpAnyT_done (by kernel_rfl) ?_
         go_wp2_with fail
         go_meet
         exact ⟨ba,rfl,rfl,rfl,HP.out⟩
       case rest =>
        obtain ⟨ba,rfl,rfl,rfl,hwp⟩:=hcut
        obtain ⟨hbw,cs,hcs,hyes⟩:=hwp
        have HBW:=zH hbw
        by_cases h3 : rE = 0
        · subst h3
          obtain ⟨gj,gm,xs,g,rfl,hgj,hmb,hms,htb⟩:=hyes rfl
          have HWF : Hid (Fits C t):=zH (walk_ok (by rw [HWR.out])).1
          have HCC:=zH (HALL.out _ (HDX.out _ HBW.out))
          have hcl:=closes_any wc (watchV ⟨Vi,Vl,Vo,Vb,Vc,.slice (some ⟨jb,jo,none⟩) bn bc,.slice fA fn fc,Va,Vs,Vt⟩ gj (.slice fA fn fc)) C ls C.fairness ⟨.slice iA il ic,.slice rA n rc⟩ t O w1.heap.size gm xs (.slice (some ⟨g,0,none⟩) (jn + fn) (jn + fn)) rfl (watch_in (HIN.out _ HBW.out).1 hgj (HLR.out _ HCC.out.2.2).1 (HLR.out _ HCC.out.2.2).2) HCK.out.1 HCK.out.2.1 (HIN.out _ HBW.out).2 HCK.out.2.2.2.1 HWF.out (by rw [HMM.out.2.1]; exact hmb) hms
          obtain ⟨cl,hcle⟩ : ∃ b,closesB C O t = b:=⟨_,rfl⟩
          rw [HMM.out.1,HMM.out.2.1,HMM.out.2.2.1,hcle] at hcl
          have HCL:=zH hcl
          have HB3 : Hid ((if cl = false then ((n : Int) - 1,132) else if missF (cameS (ls ++ C.fairness) ((valsT C O t).drop lp.toNat)) ≠ -1 then (missF (cameS (ls ++ C.fairness) ((valsT C O t).drop lp.toNat)),133) else (lp,(0 : Int))) = (ba0,be0)):=zH (by
           have h9:=HB2.out
           rw [if_neg (by simp),hcle] at h9
           exact h9)
          have HCS:=zH hcs
          have HTB:=zH htb
          clear hcs htb hyes hbw hgj hmb hms hcl hcle HB2
          cases cl with
          | false =>
            have HF : Hid ((n : Int) - 1 = ba0 ∧ 132 = be0):=zH (by have h9:=HB3.out; rw [if_pos rfl] at h9; injection h9 with h7 h8; exact ⟨h7,h8⟩)
            go_wp2_with (first
             | (refine wpList_load_row rfl 53 (.tmp 10) rfl ba rfl 53 (walkCells (watchV ⟨Vi,Vl,Vo,Vb,Vc,.slice (some ⟨jb,jo,none⟩) bn bc,.slice fA fn fc,Va,Vs,Vt⟩ gj (.slice fA fn fc)) m ⟨.slice iA il ic,.slice rA n rc⟩ lp (.slice (some ⟨gm,0,none⟩) n n) (.slice (some ⟨g,0,none⟩) (jn + fn) (jn + fn))) (0,0) _ HCS.out Tryz.underlying53 rfl (by kernel_rfl) ?_)
             | (go_at_call 54; refine HCL.out.mono ?_; rintro e w5 ⟨rfl,hb5⟩; have HB5:=zH (bt (HDX.out _ HBW.out) zN hb5); clear hb5; obtain ⟨d0,d1,d2⟩:=trio_of (HALL.out _ HB5.out).2.1))
            go_ret2
            exact ⟨retT HF.out.1 HF.out.2,(HALL.out _ HB5.out).2.2⟩
          | true =>
            have HIX : Hid (∀ wx,Below wc.heap.size wc wx → Calls Tryz.prog 55 #[.slice (some ⟨g,0,none⟩) (jn + fn) (jn + fn),.bool false] wx fun e w' => e = .returned (.int .i64 (missF (cameS (ls ++ C.fairness) ((valsT C O t).drop lp.toNat)))) ∧ Below wx.heap.size wx w'):=zH (fun wx hx => by
             have hln : (cameS (ls ++ C.fairness) ((valsT C O t).drop lp.toNat)).length = jn + fn:=by rw [cameS_len,List.length_append,HJN.out,HMM.out.2.2.2.2]
             have h8 : Tab wx g (cameS (ls ++ C.fairness) ((valsT C O t).drop lp.toNat)):=Blk.below HTB.out hx HTB.out.lt
             have h9:=tabT_row h8 (by rw [hln]; have a1:=HCK.out.2.2.2.2.1; have a2:=HCK.out.2.2.2.2.2; rw [HJN.out] at a1; rw [HMM.out.2.2.2.2] at a2; unfold maxLen; omega)
             rw [hln] at h9
             exact IndexO_any wx _ _ h9)
            obtain ⟨mi,hmi⟩ : ∃ x,missF (cameS (ls ++ C.fairness) ((valsT C O t).drop lp.toNat)) = x:=⟨_,rfl⟩
            rw [hmi] at HIX HB3
            have HB4 : Hid ((if mi ≠ -1 then (mi,133) else (lp,(0 : Int))) = (ba0,be0)):=zH (by have h9:=HB3.out; rw [if_neg (by simp)] at h9; exact h9)
            clear hmi HB3
            by_cases h5 : mi = -1
            · subst h5
              have hq5 : ((-1 : Int) != (-1 : Int)) = false:=by decide
              have HF : Hid (lp = ba0 ∧ 0 = be0):=zH (by have h9:=HB4.out; rw [if_neg (by simp)] at h9; injection h9 with h7 h8; exact ⟨h7,h8⟩)
              go_wp2_with (first
               | (refine wpList_load_row rfl 53 (.tmp 10) rfl ba rfl 53 (walkCells (watchV ⟨Vi,Vl,Vo,Vb,Vc,.slice (some ⟨jb,jo,none⟩) bn bc,.slice fA fn fc,Va,Vs,Vt⟩ gj (.slice fA fn fc)) m ⟨.slice iA il ic,.slice rA n rc⟩ lp (.slice (some ⟨gm,0,none⟩) n n) (.slice (some ⟨g,0,none⟩) (jn + fn) (jn + fn))) (0,0) _ HCS.out Tryz.underlying53 rfl (by kernel_rfl) ?_)
               | (go_at_call 54; refine HCL.out.mono ?_; rintro e w5 ⟨rfl,hb5⟩; have HB5:=zH hb5; clear hb5; have c15:=(HCS.out.below HB5.out HCS.out.lt).cell 15; simp only [List.getElem?_toArray,List.getElem?_cons_zero,List.getElem?_cons_succ] at c15)
               | (go_at_call 55; refine (HIX.out _ HB5.out).mono ?_; rintro e w6 ⟨rfl,hb6⟩; have HB6:=zH (bt (bt (HDX.out _ HBW.out) zN HB5.out) zN hb6); clear hb6; obtain ⟨d0,d1,d2⟩:=trio_of (HALL.out _ HB6.out).2.1))
              go_ret2
              exact ⟨retT HF.out.1 HF.out.2,(HALL.out _ HB6.out).2.2⟩
            · have hq5 : (mi != (-1 : Int)) = true:=by simpa using h5
              have HF : Hid (mi = ba0 ∧ 133 = be0):=zH (by have h9:=HB4.out; rw [if_pos h5] at h9; injection h9 with h7 h8; exact ⟨h7,h8⟩)
              clear h5
              go_wp2_with (first
               | (refine wpList_load_row rfl 53 (.tmp 10) rfl ba rfl 53 (walkCells (watchV ⟨Vi,Vl,Vo,Vb,Vc,.slice (some ⟨jb,jo,none⟩) bn bc,.slice fA fn fc,Va,Vs,Vt⟩ gj (.slice fA fn fc)) m ⟨.slice iA il ic,.slice rA n rc⟩ lp (.slice (some ⟨gm,0,none⟩) n n) (.slice (some ⟨g,0,none⟩) (jn + fn) (jn + fn))) (0,0) _ HCS.out Tryz.underlying53 rfl (by kernel_rfl) ?_)
               | (go_at_call 54; refine HCL.out.mono ?_; rintro e w5 ⟨rfl,hb5⟩; have HB5:=zH hb5; clear hb5; have c15:=(HCS.out.below HB5.out HCS.out.lt).cell 15; simp only [List.getElem?_toArray,List.getElem?_cons_zero,List.getElem?_cons_succ] at c15)
               | (go_at_call 55; refine (HIX.out _ HB5.out).mono ?_; rintro e w6 ⟨rfl,hb6⟩; have HB6:=zH (bt (bt (HDX.out _ HBW.out) zN HB5.out) zN hb6); clear hb6; obtain ⟨d0,d1,d2⟩:=trio_of (HALL.out _ HB6.out).2.1))
              go_ret2
              exact ⟨retT HF.out.1 HF.out.2,(HALL.out _ HB6.out).2.2⟩
        · have hq : (rE != 0) = true:=by simpa using h3
          have HF : Hid (ra = ba0 ∧ rE = be0):=zH (by have h9:=HB2.out; rw [if_pos h3] at h9; injection h9 with h7 h8; exact ⟨h7,h8⟩)
          clear hyes hcs hbw
          go_wp2
          go_ret2
          exact ⟨retT HF.out.1 HF.out.2,bt (HALL.out _ HX.out).2.2 zN HBW.out⟩
 · have hq : (r != 0) = true:=by simpa using h0
   have HE : Hid (0 = ba0 ∧ r = be0):=zH (by have h9:=HBR0.out; unfold justR at h9; rw [HR.out,if_pos h0] at h9; injection h9 with h8 h9; exact ⟨h8,h9⟩)
   go_enter Tryz.func25,Tryz.ntmps25
   go_upto_region 1 with (fail)
   rw [← HWW.out]
   go_wp2_with (go_at_call 14; refine (HCH.out _ (HALL.out _ HX.out).2.2).mono ?_; rintro e w1 ⟨rfl,hb⟩; have HXN:=zH (bt HX.out zN hb); clear HX hb c0 c1 c2 c3 c4 c5 c6 c7 c8 c9 c10 d0 d1 d2; have HX:=HXN; clear HXN; obtain ⟨c0,c1,c2,c3,c4,c5,c6,c7,c8,c9,c10⟩:=rbox_of (HALL.out _ HX.out).1; obtain ⟨d0,d1,d2⟩:=trio_of (HALL.out _ HX.out).2.1)
   go_ret2
   exact ⟨retT HE.out.1 HE.out.2,(HALL.out _ HX.out).2.2⟩
theorem retS {v : Value} {a b : Int} (h : a = b) : Ending.returned (.tuple #[v,.int .i64 a]) = .returned (.tuple #[v,.int .i64 b]) := by rw [h]
theorem trues_step {L : List Bool} {k : Nat} {b : Bool} (h : L[k]? = some b) : truesG (L.take (k + 1)) 0 = truesG (L.take k) 0 ++ (if b = true then [(k : Int)] else []) := by
 rw [List.take_add_one,h]
 show truesG (L.take k ++ [b]) 0 = _
 have hk : k < L.length:=(List.getElem?_eq_some_iff.1 h).1
 rw [truesG_snoc]
 simp [List.length_take,Nat.min_eq_left (Nat.le_of_lt hk)]
set_option maxHeartbeats 8000000 in
set_option maxRecDepth 100000 in
theorem Reached_any (w : World) (V : CV) (C : Circ) (U : TV) (t : Tr) (O : List Int) (h : C.In w V) (ok : C.Ok) (ht : t.In w U) (hO : (checkR C).2 = 0 → IsOrd C O) :
 Calls Tryz.prog 6 #[V.val C.max,U.val t.loop] w fun e w' => ∃ v,e = .returned (.tuple #[v,.int .i64 (reachE C O t)]) ∧ w'.ownsRow w.heap.size 3 1 v (reachL C O t).length ((reachL C O t).map (Value.int .i64)) ∧ Below w.heap.size w w':=by
 obtain ⟨be0,hbe0⟩ : ∃ x,reachE C O t = x:=⟨_,rfl⟩
 obtain ⟨bl0,hbl0⟩ : ∃ x,reachL C O t = x:=⟨_,rfl⟩
 have HBE:=zH hbe0
 have HBL:=zH hbl0
 rw [hbe0,hbl0]
 clear hbe0 hbl0
 have HCH:=zH (fun (wx : World) (hb : Below w.heap.size w wx) => Check_any wx V C (h.below hb) ok)
 have HIN0:=zH (fun (wx : World) (hb : Below w.heap.size w wx) => And.intro (h.below hb) (ht.below hb))
 have HOK:=zH (And.intro ok hO)
 have hone:=And.intro (rowe_one h.i) (And.intro (rowe_one h.l) (And.intro (rowe_one h.c) (And.intro (rowe_one h.a) (rowe_one h.f))))
 have hbt:=h.b
 obtain ⟨bA,bc,eb,hbl,hbm,hbr⟩:=h.b
 obtain ⟨iA,ic,ei,_⟩:=ht.i
 obtain ⟨rA,rc,er,hrm,-⟩:=ht.r.at_
 obtain ⟨Vi,Vl,Vo,Vb,Vc,Vj,Vf,Va,Vs,Vt⟩:=V
 obtain ⟨Ui,Ur⟩:=U
 simp only at eb ei er hone hbt
 subst eb ei er
 obtain ⟨m,hmm⟩ : ∃ m,C.max = m:=⟨_,rfl⟩
 obtain ⟨n,hn⟩ : ∃ n,t.rows.length = n:=⟨_,rfl⟩
 obtain ⟨il,hil⟩ : ∃ n,t.init.length = n:=⟨_,rfl⟩
 obtain ⟨lp,hlp⟩ : ∃ lp,t.loop = lp:=⟨_,rfl⟩
 obtain ⟨bn,hbn⟩ : ∃ k,C.bads.length = k:=⟨_,rfl⟩
 rw [hmm,hbn] at HCH
 rw [hbn,hn,hil] at HIN0
 rw [hbn] at hbl
 rw [hmm,hn,hil,hlp,hbn]
 have HMM:=zH (And.intro hmm (And.intro hn (And.intro hlp hbn)))
 have HONE:=zH hone
 have HBT:=zH hbt
 have HBR:=zH hbr
 unfold maxLen at hbm hrm
 rw [hn] at hrm
 obtain ⟨r,hr⟩ : ∃ r,(checkR C).2 = r:=⟨_,rfl⟩
 rw [hr] at HCH
 have HR:=zH hr
 clear h ok ht hO hone hbt hbr hmm hn hil hlp hbn hr
 obtain ⟨W0,hW⟩ : ∃ W,W = (w.alloc (.cells #[.int .i64 m,Vi,Vl,Vo,.slice bA bn bc,Vc,Vj,Vf,Va,Vs,Vt] 29)).alloc (.cells #[.slice iA il ic,.slice rA n rc,.int .i64 lp] 33):=⟨_,rfl⟩
 have HALL : Hid (∀ wz,Below W0.heap.size W0 wz → Blk wz w.heap.size 29 #[.int .i64 m,Vi,Vl,Vo,.slice bA bn bc,Vc,Vj,Vf,Va,Vs,Vt] ∧ Blk wz (w.heap.size + 1) 33 #[.slice iA il ic,.slice rA n rc,.int .i64 lp] ∧ Below w.heap.size w wz):=zH (fun wz hb => by
  rw [hW] at hb
  have h1 : Below w.heap.size w wz:=(((Below.refl w.heap.size w).alloc zN _).alloc (by simp) _).trans (hb.mono (by simp; omega))
  have e1:=((Blk.new w 29 #[.int .i64 m,Vi,Vl,Vo,.slice bA bn bc,Vc,Vj,Vf,Va,Vs,Vt]).alloc (.cells #[.slice iA il ic,.slice rA n rc,.int .i64 lp] 33)).below hb (by simp; omega)
  have e2:=(Blk.new (w.alloc (.cells #[.int .i64 m,Vi,Vl,Vo,.slice bA bn bc,Vc,Vj,Vf,Va,Vs,Vt] 29)) 33 #[.slice iA il ic,.slice rA n rc,.int .i64 lp]).below hb (by simp)
  rw [show (w.alloc (.cells #[.int .i64 m,Vi,Vl,Vo,.slice bA bn bc,Vc,Vj,Vf,Va,Vs,Vt] 29)).heap.size = w.heap.size + 1 by simp] at e2
  exact ⟨e1,e2,h1⟩)
 have HX : Hid (Below W0.heap.size W0 W0):=zH (Below.refl _ _)
 obtain ⟨c0,c1,c2,c3,c4,c5,c6,c7,c8,c9,c10⟩:=rbox_of (HALL.out _ HX.out).1
 obtain ⟨d0,d1,d2⟩:=trio_of (HALL.out _ HX.out).2.1
 have HWW:=zH hW
 clear hW
 have HNIL : Hid (∀ wz,be0 ≠ 0 → World.ownsRow wz w.heap.size 3 1 (.slice none 0 0) bl0.length (bl0.map (Value.int .i64))):=zH (fun wz h9 => by
  have h8:=HBL.out
  unfold reachL at h8
  rw [if_neg (by rw [HBE.out]; exact h9)] at h8
  subst h8
  exact World.ownsRow_nil _ _ _ _)
 by_cases h0 : r = 0
 · subst h0
   have HB1 : Hid ((walkR C O t).2 = be0):=zH (by
    have h9:=HBE.out
    unfold reachE at h9
    rwa [if_neg (by rw [HR.out]; simp)] at h9)
   obtain ⟨ra,rE,hwr⟩ : ∃ x y,walkR C O t = (x,y):=⟨_,_,rfl⟩
   have HWR:=zH hwr
   rw [hwr] at HB1
   simp only at HB1
   have hck:=HR.out
   have hus:=watch_uses hck
   have hnb:=(right_of hck).nb
   have HCK:=zH (And.intro (watch_check (ls:=C.bads) (fs:=[]) hck (fun z hz => hus.b z hz) (by simp) hnb (by simp)) (And.intro (watch_ok (ls:=C.bads) (fs:=[]) HOK.out.1 HOK.out.1.b (by simp)) (And.intro (watch_room (ls:=C.bads) (fs:=[]) hck hnb (by simp)) (And.intro (HOK.out.2 hck) hnb))))
   have hbtb:=HBT.out
   rw [HMM.out.2.2.2] at hbtb
   have HBTB:=zH (fun (wx : World) (hb : Below w.heap.size w wx) => hbtb.below hb)
   rw [HMM.out.2.2.2] at hnb
   clear hwr hck hus HBR hbtb
   go_enter Tryz.func6,Tryz.ntmps6
   go_upto_region 1 with (fail)
   rw [← HWW.out]
   go_upto_region 4 with (go_at_call 14; refine (HCH.out _ (HALL.out _ HX.out).2.2).mono ?_; rintro e w1 ⟨rfl,hb⟩; have HXN:=zH (bt HX.out zN hb); clear HX hb c0 c1 c2 c3 c4 c5 c6 c7 c8 c9 c10 d0 d1 d2; have HX:=HXN; clear HXN; obtain ⟨c0,c1,c2,c3,c4,c5,c6,c7,c8,c9,c10⟩:=rbox_of (HALL.out _ HX.out).1; obtain ⟨d0,d1,d2⟩:=trio_of (HALL.out _ HX.out).2.1)
   have HDX : Hid (∀ wz,Below w1.heap.size w1 wz → Below W0.heap.size W0 wz):=zH (fun wz hz => bt HX.out zN hz)
   go_cut [9,10,8] (fun x y p wx => ∃ ba,x = .int .i64 ra ∧ y = .int .i64 rE ∧ p = .pointer (some ⟨ba,0,none⟩) ∧ WalkP w1 wx ⟨Vi,Vl,Vo,.slice bA bn bc,Vc,Vj,Vf,Va,Vs,Vt⟩ C C.bads [] (.slice bA bn bc) (.slice none 0 0) m ⟨.slice iA il ic,.slice rA n rc⟩ t lp O 0 ba n bn rE)
   case first =>
    have HIN : Hid (∀ wx,Below w1.heap.size w1 wx → C.In wx ⟨Vi,Vl,Vo,.slice bA bn bc,Vc,Vj,Vf,Va,Vs,Vt⟩ ∧ t.In wx ⟨.slice iA il ic,.slice rA n rc⟩):=zH (fun wx hx => HIN0.out wx (HALL.out _ (HDX.out _ hx)).2.2)
    have HSS : Hid (∀ wz,Below w1.heap.size w1 wz → wz.cell? ⟨w.heap.size,0,none⟩ = some (.int .i64 m) ∧ wz.cell? ⟨w.heap.size,1,none⟩ = some Vi ∧ wz.cell? ⟨w.heap.size,2,none⟩ = some Vl ∧ wz.cell? ⟨w.heap.size,3,none⟩ = some Vo ∧ wz.cell? ⟨w.heap.size,4,none⟩ = some (.slice bA bn bc) ∧ wz.cell? ⟨w.heap.size,5,none⟩ = some Vc ∧ wz.cell? ⟨w.heap.size,6,none⟩ = some Vj ∧ wz.cell? ⟨w.heap.size,7,none⟩ = some Vf ∧ wz.cell? ⟨w.heap.size,8,none⟩ = some Va ∧ wz.cell? ⟨w.heap.size,9,none⟩ = some Vs ∧ wz.cell? ⟨w.heap.size,10,none⟩ = some Vt ∧ wz.cell? ⟨w.heap.size + 1,0,none⟩ = some (.slice iA il ic) ∧ wz.cell? ⟨w.heap.size + 1,1,none⟩ = some (.slice rA n rc) ∧ wz.cell? ⟨w.heap.size + 1,2,none⟩ = some (.int .i64 lp)):=zH (fun wz hz => by
     have h9:=HALL.out _ (HDX.out _ hz)
     obtain ⟨a0,a1,a2,a3,a4,a5,a6,a7,a8,a9,a10⟩:=rbox_of h9.1
     obtain ⟨b0,b1,b2⟩:=trio_of h9.2.1
     exact ⟨a0,a1,a2,a3,a4,a5,a6,a7,a8,a9,a10,b0,b1,b2⟩)
    have HWO : Hid (∀ wx,Below w1.heap.size w1 wx → ∀ gj,Blk wx gj 22 #[.slice bA bn bc] → Calls Tryz.prog 15 #[(watchV ⟨Vi,Vl,Vo,.slice bA bn bc,Vc,Vj,Vf,Va,Vs,Vt⟩ gj (.slice none 0 0)).val m,(TV.mk (.slice iA il ic) (.slice rA n rc)).val lp,.int .i64 0] wx fun e w' => Below wx.heap.size wx w' ∧ ∃ cs : Array Value,e = .returned (.tuple #[.agg cs,.int .i64 ra,.int .i64 rE]) ∧ (rE ≠ 0 → cs = zeroW) ∧
     (rE = 0 → ∃ gm xs g,cs = walkCells (watchV ⟨Vi,Vl,Vo,.slice bA bn bc,Vc,Vj,Vf,Va,Vs,Vt⟩ gj (.slice none 0 0)) m ⟨.slice iA il ic,.slice rA n rc⟩ lp (.slice (some ⟨gm,0,none⟩) n n) (.slice (some ⟨g,0,none⟩) bn bn) ∧ wx.heap.size ≤ gm ∧ MomB w' gm n xs ∧ Moms w' wx.heap.size xs (momsG (watchC C C.bads []) O t.init t.rows) ∧ wx.heap.size ≤ g ∧ Tab w' g (cameS (C.bads ++ []) ((valsT C O t).drop 0)))):=zH (fun wx hx gj hgj => by
     have hgj2 : Blk wx gj 22 #[.slice bA C.bads.length bc]:=by rw [HMM.out.2.2.2]; exact hgj
     have h9:=walkOf_any wx (watchV ⟨Vi,Vl,Vo,.slice bA bn bc,Vc,Vj,Vf,Va,Vs,Vt⟩ gj (.slice none 0 0)) C C.bads [] ⟨.slice iA il ic,.slice rA n rc⟩ t 0 O gj bA bc (watch_in (HIN.out _ hx).1 hgj (HBTB.out _ (HALL.out _ (HDX.out _ hx)).2.2) rowe_nilR) rfl hgj2 HCK.out.1 HCK.out.2.1 HCK.out.2.2.1 (HIN.out _ hx).2 HCK.out.2.2.2.1 HCK.out.2.2.2.2 (by simp) (fun _ => by omega)
     rw [HMM.out.1,HWR.out,HMM.out.2.1,HMM.out.2.2.1,HMM.out.2.2.2] at h9
     exact h9)
    refine wp_region_T (by kernel_rfl) (fun wz => wz.cell? ⟨w.heap.size,0,none⟩ = some (.int .i64 m) ∧ wz.cell? ⟨w.heap.size,1,none⟩ = some Vi ∧ wz.cell? ⟨w.heap.size,2,none⟩ = some Vl ∧ wz.cell? ⟨w.heap.size,3,none⟩ = some Vo ∧ wz.cell? ⟨w.heap.size,4,none⟩ = some (.slice bA bn bc) ∧ wz.cell? ⟨w.heap.size,5,none⟩ = some Vc ∧ wz.cell? ⟨w.heap.size,6,none⟩ = some Vj ∧ wz.cell? ⟨w.heap.size,7,none⟩ = some Vf ∧ wz.cell? ⟨w.heap.size,8,none⟩ = some Va ∧ wz.cell? ⟨w.heap.size,9,none⟩ = some Vs ∧ wz.cell? ⟨w.heap.size,10,none⟩ = some Vt ∧ wz.cell? ⟨w.heap.size + 1,0,none⟩ = some (.slice iA il ic) ∧ wz.cell? ⟨w.heap.size + 1,1,none⟩ = some (.slice rA n rc) ∧ wz.cell? ⟨w.heap.size + 1,2,none⟩ = some (.int .i64 lp)) 14 ?_
    clear c0 c1 c2 c3 c4 c5 c6 c7 c8 c9 c10 d0 d1 d2
    have HD0 : Hid (Below w1.heap.size w1 w1.drew):=zH (Below.refl _ _).drew
    have HD:=HD0
    have hHeld:=HSS.out _ HD.out
    refine wpAnyT_take (i:=0) (oi:={ dst:=some 23,op:=Op.load 29 (Operand.tmp 2),type:=29,pos:="replay.go:70",after:=#[],guard:=none }) (v:=?v0rr4q1) rfl (by kernel_rfl) (fun _ _ _ h => h) (by rfl) hHeld ?h0rr4q1 ?_
    case h0rr4q1 => (intro w' hSw; (try dsimp only at hSw); go_simp; try with_reducible rfl)
    (try simp only [Act.put,zA,zB,zC])
    refine wpAnyT_take (i:=1) (oi:={ dst:=some 24,op:=Op.fieldAddr 29 (Operand.tmp 2) 4,type:=0,pos:="replay.go:70",after:=#[],guard:=none }) (v:=?v1rr4q1) rfl (by kernel_rfl) (fun _ _ _ h => h) (by rfl) hHeld ?h1rr4q1 ?_
    case h1rr4q1 => (intro w' hSw; (try dsimp only at hSw); go_simp; try with_reducible rfl)
    (try simp only [Act.put,zA,zB,zC])
    refine wpAnyT_take (i:=2) (oi:={ dst:=some 25,op:=Op.load 22 (Operand.tmp 24),type:=22,pos:="replay.go:70",after:=#[{ on:=1,ground:=Ground.data }],guard:=none }) (v:=?v2rr4q1) rfl (by kernel_rfl) (fun _ _ _ h => h) (by rfl) hHeld ?h2rr4q1 ?_
    case h2rr4q1 => (intro w' hSw; (try dsimp only at hSw); go_simp; try with_reducible rfl)
    (try simp only [Act.put,zA,zB,zC])
    refine wpAnyT_take (i:=4) (oi:={ dst:=some 27,op:=Op.load 33 (Operand.tmp 3),type:=33,pos:="replay.go:70",after:=#[],guard:=none }) (v:=?v4rr4q2) rfl (by kernel_rfl) (fun _ _ _ h => h) (by rfl) hHeld ?h4rr4q2 ?_
    case h4rr4q2 => (intro w' hSw; (try dsimp only at hSw); go_simp; try with_reducible rfl)
    (try simp only [Act.put,zA,zB,zC])
    clear hHeld
    refine wpAnyT_twoR (i:=3) (j:=10) (by kernel_rfl) ?faR1 ?fbR1
    case faR1 =>
     refine wpOpTR (i:=3) rfl (fun K hK => ?_)
     go_simp
     go_at_call 16
     have hwt:=watching_any w1.drew ⟨Vi,Vl,Vo,.slice bA bn bc,Vc,Vj,Vf,Va,Vs,Vt⟩ C bA bn bc none 0 0 (HIN.out _ HD.out).1
     rw [HMM.out.1] at hwt
     refine hwt.mono ?_
     clear hwt
     rintro e wa ⟨gj,rfl,_,hj,hb⟩
     have HJ:=zH hj
     clear hj
     have HD2:=zH (bt HD.out zN hb)
     clear HD hb
     have HD:=HD2
     clear HD2
     refine hK.out _ _ (fun _ => HSS.out _ HD.out) ?_
     clear hK K
     (try simp only [Act.put,zA,zB,zC])
     refine wpAnyT_twoR (i:=5) (j:=10) (by kernel_rfl) ?faR2 ?fbR2
     case faR2 =>
      refine wpOpTR (i:=5) rfl (fun K hK => ?_)
      go_simp
      go_at_call 15
      have hwo:=HWO.out wa HD.out gj HJ.out
      refine hwo.mono ?_
      clear hwo
      rintro e wk ⟨hb,cs,rfl,hz,hyes⟩
      have HWY:=zH (And.intro hz hyes)
      clear hz hyes
      have HJ2:=zH (HJ.out.below hb HJ.out.lt)
      clear HJ
      have HJ:=HJ2
      clear HJ2
      have HSC : Hid (w1.heap.size ≤ wa.heap.size):=zH HD.out.size
      have HD2:=zH (bt HD.out zN hb)
      clear HD hb
      have HD:=HD2
      clear HD2
      refine hK.out _ _ (fun _ => HSS.out _ HD.out) ?_
      clear hK K
      (try simp only [Act.put,zA,zB,zC])
      have hHeld:=HSS.out _ HD.out
      refine wpAnyT_take (i:=6) (oi:={ dst:=some 22,op:=Op.move (Operand.tmp 28),type:=54,pos:="replay.go:70",after:=#[{ on:=5,ground:=Ground.data }],guard:=none }) (v:=?v6rr4q3) rfl (by kernel_rfl) (fun _ _ _ h => h) (by rfl) hHeld ?h6rr4q3 ?_
      case h6rr4q3 => (intro w' hSw; (try dsimp only at hSw); go_simp; try with_reducible rfl)
      (try simp only [Act.put,zA,zB,zC])
      refine wpAnyT_take (i:=7) (oi:={ dst:=some 29,op:=Op.extract (Operand.tmp 22) 0,type:=53,pos:="replay.go:70",after:=#[{ on:=6,ground:=Ground.data }],guard:=none }) (v:=?v7rr4q3) rfl (by kernel_rfl) (fun _ _ _ h => h) (by rfl) hHeld ?h7rr4q3 ?_
      case h7rr4q3 => (intro w' hSw; (try dsimp only at hSw); go_simp; try with_reducible rfl)
      (try simp only [Act.put,zA,zB,zC])
      refine wpAnyT_take (i:=8) (oi:={ dst:=some 30,op:=Op.extract (Operand.tmp 22) 1,type:=3,pos:="replay.go:70",after:=#[{ on:=6,ground:=Ground.data },{ on:=11,ground:=Ground.gcOnly Departure.lateStores }],guard:=none }) (v:=?v8rr4q3) rfl (by kernel_rfl) (fun _ _ _ h => h) (by rfl) hHeld ?h8rr4q3 ?_
      case h8rr4q3 => (intro w' hSw; (try dsimp only at hSw); go_simp; try with_reducible rfl)
      (try simp only [Act.put,zA,zB,zC])
      refine wpAnyT_take (i:=9) (oi:={ dst:=some 31,op:=Op.extract (Operand.tmp 22) 2,type:=36,pos:="replay.go:70",after:=#[{ on:=6,ground:=Ground.data },{ on:=12,ground:=Ground.gcOnly Departure.lateStores }],guard:=none }) (v:=?v9rr4q3) rfl (by kernel_rfl) (fun _ _ _ h => h) (by rfl) hHeld ?h9rr4q3 ?_
      case h9rr4q3 => (intro w' hSw; (try dsimp only at hSw); go_simp; try with_reducible rfl)
      (try simp only [Act.put,zA,zB,zC])
      clear hHeld
      refine wpAnyT_one (i:=10) rfl (by kernel_rfl) (fun K hK => ?_)
      go_simp
      obtain ⟨wb,ba,hwb,hba,hb,h2,h3,h4⟩:=box_new wk
      rw [← hwb,← hba]
      have HA:=zH h2
      have HBG : Hid (w1.heap.size ≤ ba):=zH (Nat.le_trans HD.out.size h3)
      have HBO : Hid (wk.heap.size ≤ ba):=zH h3
      have HKB:=zH h4
      have HJ2:=zH (HJ.out.below hb HJ.out.lt)
      clear HJ
      have HJ:=HJ2
      clear HJ2
      have HD2:=zH (bt HD.out zN hb)
      clear HD hb h2 h3 h4 hwb hba
      have HD:=HD2
      clear HD2
      refine hK.out _ _ (fun _ => HSS.out _ HD.out) ?_
      clear hK K
      (try simp only [Act.put,zA,zB,zC])
      refine wpAnyT_one (i:=11) rfl (by kernel_rfl) (fun K hK => ?_)
      rw [if_pos (by rfl)]
      have hsz : cs.size = 16:=by
       by_cases h9 : rE = 0
       · obtain ⟨gm,xs,g,rfl,_⟩:=HWY.out.2 h9; rfl
       · obtain rfl:=HWY.out.1 h9; rfl
      have hon : cs.all (·.oneCell') = true:=by
       have s1 : ∀ a b c,(Value.slice a b c).oneCell' = true:=fun _ _ _ => rfl
       have i1 : ∀ k z,(Value.int k z).oneCell' = true:=fun _ _ => rfl
       by_cases h9 : rE = 0
       · obtain ⟨gm,xs,g,rfl,_⟩:=HWY.out.2 h9
         obtain ⟨o1,o2,o3,o4,o5⟩:=HONE.out
         simp [watchV,s1,i1,o1,o2,o3,o4]
       · obtain rfl:=HWY.out.1 h9
         simp [s1,i1]
      have HP:=zH (walkP_of HD.out HA.out HJ.out HSC.out HBG.out (.inr HBO.out) (fun k hk _ => HKB.out k hk) HWY.out)
      refine wp_store_row 53 (.tmp 8) (.tmp 29) rfl ba cs rfl rfl 53 _ HA.out (by rw [hsz]; kernel_rfl) hsz.symm hon (hK.out _ _ (fun _ => HSS.out _ HP.out.1) ?_)
      clear hK K hsz hon
      (try simp only [Act.put,List.setIfInBounds_toArray])
      have hHeld:=HSS.out _ HP.out.1
      refine wpAnyT_take (i:=12) (oi:={ dst:=some 9,op:=Op.assign (Operand.tmp 30),type:=3,pos:="replay.go:70",after:=#[{ on:=8,ground:=Ground.data },{ on:=11,ground:=Ground.chain },{ on:=0,ground:=Ground.phase },{ on:=1,ground:=Ground.phase },{ on:=2,ground:=Ground.phase },{ on:=3,ground:=Ground.phase },{ on:=4,ground:=Ground.phase },{ on:=5,ground:=Ground.phase },{ on:=6,ground:=Ground.phase },{ on:=7,ground:=Ground.phase },{ on:=8,ground:=Ground.phase },{ on:=9,ground:=Ground.textOnly Departure.lateStores },{ on:=10,ground:=Ground.phase },{ on:=11,ground:=Ground.phase }],guard:=none }) (v:=?v12rr4q4) rfl (by kernel_rfl) (fun _ _ _ h => h) (by rfl) hHeld ?h12rr4q4 ?_
      case h12rr4q4 => (intro w' hSw; (try dsimp only at hSw); go_simp; try with_reducible rfl)
      (try simp only [Act.put])
      refine wpAnyT_take (i:=13) (oi:={ dst:=some 10,op:=Op.assign (Operand.tmp 31),type:=36,pos:="replay.go:70",after:=#[{ on:=9,ground:=Ground.data },{ on:=12,ground:=Ground.chain },{ on:=0,ground:=Ground.phase },{ on:=1,ground:=Ground.phase },{ on:=2,ground:=Ground.phase },{ on:=3,ground:=Ground.phase },{ on:=4,ground:=Ground.phase },{ on:=5,ground:=Ground.phase },{ on:=6,ground:=Ground.phase },{ on:=7,ground:=Ground.phase },{ on:=8,ground:=Ground.phase },{ on:=9,ground:=Ground.phase },{ on:=10,ground:=Ground.phase },{ on:=11,ground:=Ground.phase },{ on:=12,ground:=Ground.phase }],guard:=none }) (v:=?v13rr4q4) rfl (by kernel_rfl) (fun _ _ _ h => h) (by rfl) hHeld ?h13rr4q4 ?_
      case h13rr4q4 => (intro w' hSw; (try dsimp only at hSw); go_simp; try with_reducible rfl)
      (try simp only [Act.put])
      clear hHeld
      refine wpAnyT_done (by kernel_rfl) ?_
      go_wp2_with fail
      go_meet
      exact ⟨ba,rfl,rfl,rfl,HP.out⟩
     case fbR2 =>
      refine wpOpTR (i:=10) rfl (fun K hK => ?_)
      go_simp
      obtain ⟨wb,ba,hwb,hba,hb,h2,h3,h4⟩:=box_new wa
      rw [← hwb,← hba]
      have HA:=zH h2
      have HBG : Hid (w1.heap.size ≤ ba):=zH (Nat.le_trans HD.out.size h3)
      have HJ2:=zH (HJ.out.below hb HJ.out.lt)
      clear HJ
      have HJ:=HJ2
      clear HJ2
      have HD2:=zH (bt HD.out zN hb)
      clear HD hb h2 h3 h4 hwb hba
      have HD:=HD2
      clear HD2
      refine hK.out _ _ (fun _ => HSS.out _ HD.out) ?_
      clear hK K
      (try simp only [Act.put,zA,zB,zC])
      refine wpAnyT_one (i:=5) rfl (by kernel_rfl) (fun K hK => ?_)
      go_simp
      go_at_call 15
      have hwo:=HWO.out wb HD.out gj HJ.out
      refine hwo.mono ?_
      clear hwo
      rintro e wk ⟨hb,cs,rfl,hz,hyes⟩
      have HWY:=zH (And.intro hz hyes)
      clear hz hyes
      have HJ2:=zH (HJ.out.below hb HJ.out.lt)
      clear HJ
      have HJ:=HJ2
      clear HJ2
      have HSC : Hid (w1.heap.size ≤ wb.heap.size):=zH HD.out.size
      have HBO : Hid (ba < wb.heap.size):=zH HA.out.lt
      have HA2:=zH (HA.out.below hb HA.out.lt)
      clear HA
      have HA:=HA2
      clear HA2
      have HD2:=zH (bt HD.out zN hb)
      clear HD hb
      have HD:=HD2
      clear HD2
      refine hK.out _ _ (fun _ => HSS.out _ HD.out) ?_
      clear hK K
      (try simp only [Act.put,zA,zB,zC])
      have hHeld:=HSS.out _ HD.out
      refine wpAnyT_take (i:=6) (oi:={ dst:=some 22,op:=Op.move (Operand.tmp 28),type:=54,pos:="replay.go:70",after:=#[{ on:=5,ground:=Ground.data }],guard:=none }) (v:=?v6rr4q5) rfl (by kernel_rfl) (fun _ _ _ h => h) (by rfl) hHeld ?h6rr4q5 ?_
      case h6rr4q5 => (intro w' hSw; (try dsimp only at hSw); go_simp; try with_reducible rfl)
      (try simp only [Act.put,zA,zB,zC])
      refine wpAnyT_take (i:=7) (oi:={ dst:=some 29,op:=Op.extract (Operand.tmp 22) 0,type:=53,pos:="replay.go:70",after:=#[{ on:=6,ground:=Ground.data }],guard:=none }) (v:=?v7rr4q5) rfl (by kernel_rfl) (fun _ _ _ h => h) (by rfl) hHeld ?h7rr4q5 ?_
      case h7rr4q5 => (intro w' hSw; (try dsimp only at hSw); go_simp; try with_reducible rfl)
      (try simp only [Act.put,zA,zB,zC])
      refine wpAnyT_take (i:=8) (oi:={ dst:=some 30,op:=Op.extract (Operand.tmp 22) 1,type:=3,pos:="replay.go:70",after:=#[{ on:=6,ground:=Ground.data },{ on:=11,ground:=Ground.gcOnly Departure.lateStores }],guard:=none }) (v:=?v8rr4q5) rfl (by kernel_rfl) (fun _ _ _ h => h) (by rfl) hHeld ?h8rr4q5 ?_
      case h8rr4q5 => (intro w' hSw; (try dsimp only at hSw); go_simp; try with_reducible rfl)
      (try simp only [Act.put,zA,zB,zC])
      refine wpAnyT_take (i:=9) (oi:={ dst:=some 31,op:=Op.extract (Operand.tmp 22) 2,type:=36,pos:="replay.go:70",after:=#[{ on:=6,ground:=Ground.data },{ on:=12,ground:=Ground.gcOnly Departure.lateStores }],guard:=none }) (v:=?v9rr4q5) rfl (by kernel_rfl) (fun _ _ _ h => h) (by rfl) hHeld ?h9rr4q5 ?_
      case h9rr4q5 => (intro w' hSw; (try dsimp only at hSw); go_simp; try with_reducible rfl)
      (try simp only [Act.put,zA,zB,zC])
      clear hHeld
      refine wpAnyT_one (i:=11) rfl (by kernel_rfl) (fun K hK => ?_)
      rw [if_pos (by rfl)]
      have hsz : cs.size = 16:=by
       by_cases h9 : rE = 0
       · obtain ⟨gm,xs,g,rfl,_⟩:=HWY.out.2 h9; rfl
       · obtain rfl:=HWY.out.1 h9; rfl
      have hon : cs.all (·.oneCell') = true:=by
       have s1 : ∀ a b c,(Value.slice a b c).oneCell' = true:=fun _ _ _ => rfl
       have i1 : ∀ k z,(Value.int k z).oneCell' = true:=fun _ _ => rfl
       by_cases h9 : rE = 0
       · obtain ⟨gm,xs,g,rfl,_⟩:=HWY.out.2 h9
         obtain ⟨o1,o2,o3,o4,o5⟩:=HONE.out
         simp [watchV,s1,i1,o1,o2,o3,o4]
       · obtain rfl:=HWY.out.1 h9
         simp [s1,i1]
      have HP:=zH (walkP_of HD.out HA.out HJ.out HSC.out HBG.out (.inl HBO.out) (fun k _ _ => rfl) HWY.out)
      refine wp_store_row 53 (.tmp 8) (.tmp 29) rfl ba cs rfl rfl 53 _ HA.out (by rw [hsz]; kernel_rfl) hsz.symm hon (hK.out _ _ (fun _ => HSS.out _ HP.out.1) ?_)
      clear hK K hsz hon
      (try simp only [Act.put,List.setIfInBounds_toArray])
      have hHeld:=HSS.out _ HP.out.1
      refine wpAnyT_take (i:=12) (oi:={ dst:=some 9,op:=Op.assign (Operand.tmp 30),type:=3,pos:="replay.go:70",after:=#[{ on:=8,ground:=Ground.data },{ on:=11,ground:=Ground.chain },{ on:=0,ground:=Ground.phase },{ on:=1,ground:=Ground.phase },{ on:=2,ground:=Ground.phase },{ on:=3,ground:=Ground.phase },{ on:=4,ground:=Ground.phase },{ on:=5,ground:=Ground.phase },{ on:=6,ground:=Ground.phase },{ on:=7,ground:=Ground.phase },{ on:=8,ground:=Ground.phase },{ on:=9,ground:=Ground.textOnly Departure.lateStores },{ on:=10,ground:=Ground.phase },{ on:=11,ground:=Ground.phase }],guard:=none }) (v:=?v12rr4q6) rfl (by kernel_rfl) (fun _ _ _ h => h) (by rfl) hHeld ?h12rr4q6 ?_
      case h12rr4q6 => (intro w' hSw; (try dsimp only at hSw); go_simp; try with_reducible rfl)
      (try simp only [Act.put])
      refine wpAnyT_take (i:=13) (oi:={ dst:=some 10,op:=Op.assign (Operand.tmp 31),type:=36,pos:="replay.go:70",after:=#[{ on:=9,ground:=Ground.data },{ on:=12,ground:=Ground.chain },{ on:=0,ground:=Ground.phase },{ on:=1,ground:=Ground.phase },{ on:=2,ground:=Ground.phase },{ on:=3,ground:=Ground.phase },{ on:=4,ground:=Ground.phase },{ on:=5,ground:=Ground.phase },{ on:=6,ground:=Ground.phase },{ on:=7,ground:=Ground.phase },{ on:=8,ground:=Ground.phase },{ on:=9,ground:=Ground.phase },{ on:=10,ground:=Ground.phase },{ on:=11,ground:=Ground.phase },{ on:=12,ground:=Ground.phase }],guard:=none }) (v:=?v13rr4q6) rfl (by kernel_rfl) (fun _ _ _ h => h) (by rfl) hHeld ?h13rr4q6 ?_
      case h13rr4q6 => (intro w' hSw; (try dsimp only at hSw); go_simp; try with_reducible rfl)
      (try simp only [Act.put])
      clear hHeld
      refine wpAnyT_done (by kernel_rfl) ?_
      go_wp2_with fail
      go_meet
      exact ⟨ba,rfl,rfl,rfl,HP.out⟩
    case fbR1 =>
     refine wpOpTR (i:=10) rfl (fun K hK => ?_)
     go_simp
     obtain ⟨wb,ba,hwb,hba,hb,h2,h3⟩:=box_newD w1
     rw [← hwb,← hba]
     have HA:=zH h2
     have HBG : Hid (w1.heap.size ≤ ba):=zH h3
     clear HD
     have HD:=zH hb
     clear hb h2 h3 hwb hba
     refine hK.out _ _ (fun _ => HSS.out _ HD.out) ?_
     clear hK K
     (try simp only [Act.put,zA,zB,zC])
     refine wpAnyT_one (i:=3) rfl (by kernel_rfl) (fun K hK => ?_)
     go_simp
     go_at_call 16
     have hwt:=watching_any wb ⟨Vi,Vl,Vo,.slice bA bn bc,Vc,Vj,Vf,Va,Vs,Vt⟩ C bA bn bc none 0 0 (HIN.out _ HD.out).1
     rw [HMM.out.1] at hwt
     refine hwt.mono ?_
     clear hwt
     rintro e wa ⟨gj,rfl,_,hj,hb⟩
     have HJ:=zH hj
     clear hj
     have HA2:=zH (HA.out.below hb HA.out.lt)
     clear HA
     have HA:=HA2
     clear HA2
     have HD2:=zH (bt HD.out zN hb)
     clear HD hb
     have HD:=HD2
     clear HD2
     refine hK.out _ _ (fun _ => HSS.out _ HD.out) ?_
     clear hK K
     (try simp only [Act.put,zA,zB,zC])
     refine wpAnyT_one (i:=5) rfl (by kernel_rfl) (fun K hK => ?_)
     go_simp
     go_at_call 15
     have hwo:=HWO.out wa HD.out gj HJ.out
     refine hwo.mono ?_
     clear hwo
     rintro e wk ⟨hb,cs,rfl,hz,hyes⟩
     have HWY:=zH (And.intro hz hyes)
     clear hz hyes
     have HJ2:=zH (HJ.out.below hb HJ.out.lt)
     clear HJ
     have HJ:=HJ2
     clear HJ2
     have HSC : Hid (w1.heap.size ≤ wa.heap.size):=zH HD.out.size
     have HBO : Hid (ba < wa.heap.size):=zH HA.out.lt
     have HA2:=zH (HA.out.below hb HA.out.lt)
     clear HA
     have HA:=HA2
     clear HA2
     have HD2:=zH (bt HD.out zN hb)
     clear HD hb
     have HD:=HD2
     clear HD2
     refine hK.out _ _ (fun _ => HSS.out _ HD.out) ?_
     clear hK K
     (try simp only [Act.put,zA,zB,zC])
     have hHeld:=HSS.out _ HD.out
     refine wpAnyT_take (i:=6) (oi:={ dst:=some 22,op:=Op.move (Operand.tmp 28),type:=54,pos:="replay.go:70",after:=#[{ on:=5,ground:=Ground.data }],guard:=none }) (v:=?v6rr4q7) rfl (by kernel_rfl) (fun _ _ _ h => h) (by rfl) hHeld ?h6rr4q7 ?_
     case h6rr4q7 => (intro w' hSw; (try dsimp only at hSw); go_simp; try with_reducible rfl)
     (try simp only [Act.put,zA,zB,zC])
     refine wpAnyT_take (i:=7) (oi:={ dst:=some 29,op:=Op.extract (Operand.tmp 22) 0,type:=53,pos:="replay.go:70",after:=#[{ on:=6,ground:=Ground.data }],guard:=none }) (v:=?v7rr4q7) rfl (by kernel_rfl) (fun _ _ _ h => h) (by rfl) hHeld ?h7rr4q7 ?_
     case h7rr4q7 => (intro w' hSw; (try dsimp only at hSw); go_simp; try with_reducible rfl)
     (try simp only [Act.put,zA,zB,zC])
     refine wpAnyT_take (i:=8) (oi:={ dst:=some 30,op:=Op.extract (Operand.tmp 22) 1,type:=3,pos:="replay.go:70",after:=#[{ on:=6,ground:=Ground.data },{ on:=11,ground:=Ground.gcOnly Departure.lateStores }],guard:=none }) (v:=?v8rr4q7) rfl (by kernel_rfl) (fun _ _ _ h => h) (by rfl) hHeld ?h8rr4q7 ?_
     case h8rr4q7 => (intro w' hSw; (try dsimp only at hSw); go_simp; try with_reducible rfl)
     (try simp only [Act.put,zA,zB,zC])
     refine wpAnyT_take (i:=9) (oi:={ dst:=some 31,op:=Op.extract (Operand.tmp 22) 2,type:=36,pos:="replay.go:70",after:=#[{ on:=6,ground:=Ground.data },{ on:=12,ground:=Ground.gcOnly Departure.lateStores }],guard:=none }) (v:=?v9rr4q7) rfl (by kernel_rfl) (fun _ _ _ h => h) (by rfl) hHeld ?h9rr4q7 ?_
     case h9rr4q7 => (intro w' hSw; (try dsimp only at hSw); go_simp; try with_reducible rfl)
     (try simp only [Act.put,zA,zB,zC])
     clear hHeld
     refine wpAnyT_one (i:=11) rfl (by kernel_rfl) (fun K hK => ?_)
     rw [if_pos (by rfl)]
     have hsz : cs.size = 16:=by
      by_cases h9 : rE = 0
      · obtain ⟨gm,xs,g,rfl,_⟩:=HWY.out.2 h9; rfl
      · obtain rfl:=HWY.out.1 h9; rfl
     have hon : cs.all (·.oneCell') = true:=by
      have s1 : ∀ a b c,(Value.slice a b c).oneCell' = true:=fun _ _ _ => rfl
      have i1 : ∀ k z,(Value.int k z).oneCell' = true:=fun _ _ => rfl
      by_cases h9 : rE = 0
      · obtain ⟨gm,xs,g,rfl,_⟩:=HWY.out.2 h9
        obtain ⟨o1,o2,o3,o4,o5⟩:=HONE.out
        simp [watchV,s1,i1,o1,o2,o3,o4]
      · obtain rfl:=HWY.out.1 h9
        simp [s1,i1]
     have HP:=zH (walkP_of HD.out HA.out HJ.out HSC.out HBG.out (.inl HBO.out) (fun k _ _ => rfl) HWY.out)
     refine wp_store_row 53 (.tmp 8) (.tmp 29) rfl ba cs rfl rfl 53 _ HA.out (by rw [hsz]; kernel_rfl) hsz.symm hon (hK.out _ _ (fun _ => HSS.out _ HP.out.1) ?_)
     clear hK K hsz hon
     (try simp only [Act.put,List.setIfInBounds_toArray])
     have hHeld:=HSS.out _ HP.out.1
     refine wpAnyT_take (i:=12) (oi:={ dst:=some 9,op:=Op.assign (Operand.tmp 30),type:=3,pos:="replay.go:70",after:=#[{ on:=8,ground:=Ground.data },{ on:=11,ground:=Ground.chain },{ on:=0,ground:=Ground.phase },{ on:=1,ground:=Ground.phase },{ on:=2,ground:=Ground.phase },{ on:=3,ground:=Ground.phase },{ on:=4,ground:=Ground.phase },{ on:=5,ground:=Ground.phase },{ on:=6,ground:=Ground.phase },{ on:=7,ground:=Ground.phase },{ on:=8,ground:=Ground.phase },{ on:=9,ground:=Ground.textOnly Departure.lateStores },{ on:=10,ground:=Ground.phase },{ on:=11,ground:=Ground.phase }],guard:=none }) (v:=?v12rr4q8) rfl (by kernel_rfl) (fun _ _ _ h => h) (by rfl) hHeld ?h12rr4q8 ?_
     case h12rr4q8 => (intro w' hSw; (try dsimp only at hSw); go_simp; try with_reducible rfl)
     (try simp only [Act.put])
     refine wpAnyT_take (i:=13) (oi:={ dst:=some 10,op:=Op.assign (Operand.tmp 31),type:=36,pos:="replay.go:70",after:=#[{ on:=9,ground:=Ground.data },{ on:=12,ground:=Ground.chain },{ on:=0,ground:=Ground.phase },{ on:=1,ground:=Ground.phase },{ on:=2,ground:=Ground.phase },{ on:=3,ground:=Ground.phase },{ on:=4,ground:=Ground.phase },{ on:=5,ground:=Ground.phase },{ on:=6,ground:=Ground.phase },{ on:=7,ground:=Ground.phase },{ on:=8,ground:=Ground.phase },{ on:=9,ground:=Ground.phase },{ on:=10,ground:=Ground.phase },{ on:=11,ground:=Ground.phase },{ on:=12,ground:=Ground.phase }],guard:=none }) (v:=?v13rr4q8) rfl (by kernel_rfl) (fun _ _ _ h => h) (by rfl) hHeld ?h13rr4q8 ?_
     case h13rr4q8 => (intro w' hSw; (try dsimp only at hSw); go_simp; try with_reducible rfl)
     (try simp only [Act.put])
     clear hHeld
     refine wpAnyT_done (by kernel_rfl) ?_
     go_wp2_with fail
     go_meet
     exact ⟨ba,rfl,rfl,rfl,HP.out⟩
   case rest =>
    obtain ⟨ba,rfl,rfl,rfl,hwp⟩:=hcut
    obtain ⟨hbw,cs,hcs,hyes⟩:=hwp
    have HBW:=zH hbw
    by_cases h3 : rE = 0
    · subst h3
      obtain ⟨gj,gm,xs,g,rfl,_,_,_,htb⟩:=hyes rfl
      obtain ⟨L,hL⟩ : ∃ L,cameS C.bads (valsT C O t) = L:=⟨_,rfl⟩
      have hLl : L.length = bn:=by rw [← hL,cameS_len]; exact HMM.out.2.2.2
      have htb2 : Tab wc g L:=by
       have h9:=htb
       rw [List.append_nil,List.drop_zero,hL] at h9
       exact h9
      have HLB : Hid (truesG L 0 = bl0):=zH (by
       have h9:=HBL.out
       unfold reachL at h9
       rwa [if_pos (by rw [HBE.out]; exact HB1.out.symm),hL] at h9)
      have HLL:=zH hLl
      have HTB:=zH htb2
      have hc15:=hcs.cell 15
      simp only [List.getElem?_toArray,List.getElem?_cons_zero,List.getElem?_cons_succ] at hc15
      have HB0 : Hid (Below w.heap.size w wc):=zH (HALL.out _ (HDX.out _ HBW.out)).2.2
      clear hcs htb htb2 hyes hbw hL hLl
      go_wp2
      go_loopg [11,38] bn (fun z ov iv wr => ∃ k r : Nat,k ≤ bn ∧ iv = .int .i64 k ∧ z = bn - k ∧ (truesG (L.take k) 0).length = r ∧ r ≤ k ∧ wr.ownsRow wc.heap.size 3 1 ov r ((truesG (L.take k) 0).map (Value.int .i64)) ∧ Below wc.heap.size wc wr)
      case atStart => exact ⟨0,0,Nat.zero_le _,rfl,rfl,rfl,Nat.le_refl _,⟨rfl,.inl ⟨rfl,rfl⟩⟩,Below.refl _ _⟩
      case round =>
       obtain ⟨k,r,hk,rfl,hgk,hrl,hrk,hown,hbl⟩:=hrel
       subst hgk
       have HO:=zH hown
       have HB:=zH hbl
       have HRL:=zH hrl
       clear hown hbl hrl
       obtain ⟨Ao,co,hov⟩:=own_slice1 HO.out
       subst hov
       by_cases hlt : k < bn
       · obtain ⟨b,hb⟩ : ∃ b,L[k]? = some b:=⟨_,List.getElem?_eq_getElem (by rw [HLL.out]; exact hlt)⟩
         have i0:=(HB.out.cell (p:=⟨g,k,none⟩) HTB.out.lt).trans (HTB.out.cell hb)
         have HST:=zH (trues_step hb)
         have hk0 : (0 : Int) ≤ (k : Int):=by omega
         have hk1 : (k : Int) < (bn : Int):=by omega
         clear hb
         cases b with
         | false =>
           have HTK : Hid (truesG (L.take (k + 1)) 0 = truesG (L.take k) 0):=zH (by rw [HST.out]; simp)
           go_wp2
           go_roundg (bn - (k + 1))
           case measure => omega
           case rel => exact ⟨k + 1,r,by omega,by go_num,rfl,by rw [HTK.out]; exact HRL.out,by omega,by rw [HTK.out]; exact HO.out,HB.out⟩
         | true =>
           have HTK : Hid (truesG (L.take (k + 1)) 0 = truesG (L.take k) 0 ++ [(k : Int)]):=zH (by rw [HST.out]; simp)
           obtain ⟨i0',hi0,hz0,hz1,hz2⟩:=info_of2 infoIS
           have HI0:=zH (And.intro hi0 (And.intro hz0 (And.intro hz1 hz2)))
           have HR1:=zH (reads_oneS wr (.int .i64 (k : Int)) 3)
           have hsz:=HB.out.size
           clear HST hi0 hz0 hz1 hz2
           go_wp2_with (at_builtin; refine wpList_append_any _ rfl (.tmp 44) (.tmp 46) _ rfl wc.heap.size 3 i0' _ 1 8 Tryz.underlying22 HI0.out.1 HI0.out.2.1 HI0.out.2.2.1 HI0.out.2.2.2 rfl (by omega) (.slice Ao r co) r ((truesG (L.take k) 0).map (Value.int .i64)) rfl (HO.out.alloc _) (wr.heap.size + 1) (some ⟨wr.heap.size,0,none⟩) 1 1 [.int .i64 (k : Int)] rfl HR1.out (by simp [Value.oneCell']) (by simp only [maxLen]; omega) (by omega) (by simp; omega) ?_; intro v3 w3 hown3 hg3 hat3; have HB3:=zH ((HB.out.alloc hsz (.cells #[.int .i64 (k : Int)] 3)).grown hg3 (by simp; omega) (fun g hg => (HO.out.lt g hg).1)); have HO3:=zH hown3; clear hown3 hg3 hat3)
           go_roundg (bn - (k + 1))
           case measure => omega
           case rel => exact ⟨k + 1,r + 1,by omega,by go_num,rfl,by rw [HTK.out]; simp [HRL.out],by omega,by rw [HTK.out]; simpa using HO3.out,HB3.out⟩
       · have hke : k = bn:=by omega
         subst hke
         go_wp2
         go_ret2
         have h9:=HO.out
         have h8:=HRL.out
         rw [List.take_of_length_le (by rw [HLL.out]; exact Nat.le_refl _),HLB.out] at h9 h8
         rw [← h8] at h9 ⊢
         exact ⟨_,retS HB1.out,own_le h9 HB0.out.size,bt HB0.out zN HB.out⟩
    · have hq : (rE != 0) = true:=by simpa using h3
      have HH3:=zH h3
      clear hyes hcs hbw
      go_wp2
      go_ret2
      exact ⟨_,retS HB1.out,HNIL.out _ (by rw [← HB1.out]; exact HH3.out),bt (HALL.out _ HX.out).2.2 zN HBW.out⟩
 · have hq : (r != 0) = true:=by simpa using h0
   have HE : Hid (r = be0 ∧ be0 ≠ 0):=zH (by have h9:=HBE.out; unfold reachE at h9; rw [HR.out,if_pos h0] at h9; exact ⟨h9,by rw [← h9]; exact h0⟩)
   go_enter Tryz.func6,Tryz.ntmps6
   go_upto_region 1 with (fail)
   rw [← HWW.out]
   go_wp2_with (go_at_call 14; refine (HCH.out _ (HALL.out _ HX.out).2.2).mono ?_; rintro e w1 ⟨rfl,hb⟩; have HXN:=zH (bt HX.out zN hb); clear HX hb c0 c1 c2 c3 c4 c5 c6 c7 c8 c9 c10 d0 d1 d2; have HX:=HXN; clear HXN; obtain ⟨c0,c1,c2,c3,c4,c5,c6,c7,c8,c9,c10⟩:=rbox_of (HALL.out _ HX.out).1; obtain ⟨d0,d1,d2⟩:=trio_of (HALL.out _ HX.out).2.1)
   go_ret2
   exact ⟨_,retS HE.out.1,HNIL.out _ HE.out.2,(HALL.out _ HX.out).2.2⟩
end Go.Proofs.YtjbglgmbnjdhcaaGreat

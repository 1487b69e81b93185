import Derived.Test.YtjbglgmbnjdhcaaGreatSimO
import Derived.Test.YtjbglgmbnjdhcaaGreatSimQ
import Derived.Test.YtjbglgmbnjdhcaaGreatArgS
namespace Go.Proofs.YtjbglgmbnjdhcaaGreat
open Go.RowKit

structure MoS (W0 wr : World) (g : Nat) (x : MV) (ss : List Bool) (bs : List Int) (fs : List (Int × Int)) : Prop where
 below : Below W0.heap.size W0 wr
 lt : W0.heap.size ≤ g
 blk : Blk wr g 62 #[x.s,.bool x.h,x.b,x.f]
 s : wr.ownsRow W0.heap.size 4 1 x.s ss.length (ss.map Value.bool)
 b : wr.ownsRow W0.heap.size 3 1 x.b bs.length (bs.map (Value.int .i64))
 f : wr.ownsRow W0.heap.size 114 2 x.f fs.length (fs.flatMap encQ)
theorem MoS.putB {W0 wr w3 : World} {g : Nat} {x : MV} {ss : List Bool} {bs : List Int} {fs : List (Int × Int)} {a : Int} {v : Value} (h : MoS W0 wr g x ss bs fs) (ho : w3.ownsRow W0.heap.size 3 1 v (bs.length + 1) (bs.map (Value.int .i64) ++ [.int .i64 a]))
 (hg : (wr.alloc (.cells #[.int .i64 a] 3)).grownBy w3 x.b.ownBlock) : Below W0.heap.size W0 w3 ∧ Blk w3 g 62 #[x.s,.bool x.h,x.b,x.f] ∧ MoS W0 (w3.setCell ⟨g,2,none⟩ v) g ⟨x.s,x.h,v,x.f⟩ ss (bs ++ [a]) fs:=by
 have hsz:=h.below.size
 have hlt:=h.blk.lt
 have hal:=fun (o : Obj) => h.b.alloc o
 have hbl : Below W0.heap.size W0 w3:=(h.below.alloc hsz (.cells #[.int .i64 a] 3)).grown hg (by simp; omega) (fun k hk => (h.b.lt k hk).1)
 have hbk : Blk w3 g 62 #[x.s,.bool x.h,x.b,x.f]:=(h.blk.alloc _).grown hg (fun e => own_blk_ne h.b h.blk (by decide) e.symm)
 have hs:=own_other (h.s.alloc (.cells #[.int .i64 a] 3)) (h.b.alloc (.cells #[.int .i64 a] 3)) (by decide) hg
 have hf:=own_other (h.f.alloc (.cells #[.int .i64 a] 3)) (h.b.alloc (.cells #[.int .i64 a] 3)) (by decide) hg
 refine ⟨hbl,hbk,hbl.setCell (by simpa using h.lt) _,h.lt,by simpa using hbk.set_ 2 v,own_setQ hs _ _ (fun k hk e => own_blk_ne hs hbk (by decide) (by rw [hk,e])),?_,own_setQ hf _ _ (fun k hk e => own_blk_ne hf hbk (by decide) (by rw [hk,e]))⟩
 have:=own_setQ ho ⟨g,2,none⟩ v (fun k hk e => own_blk_ne ho hbk (by decide) (by rw [hk,e]))
 simpa using this
theorem MoS.putF {W0 wr w3 : World} {g : Nat} {x : MV} {ss : List Bool} {bs : List Int} {fs : List (Int × Int)} {p : Int × Int} {v : Value} (h : MoS W0 wr g x ss bs fs) (ho : w3.ownsRow W0.heap.size 114 2 v (fs.length + 1) (fs.flatMap encQ ++ [.int .i64 p.1,.int .i64 p.2]))
 (hg : (wr.alloc (.cells #[.int .i64 p.1,.int .i64 p.2] 114)).grownBy w3 x.f.ownBlock) : Below W0.heap.size W0 w3 ∧ Blk w3 g 62 #[x.s,.bool x.h,x.b,x.f] ∧ MoS W0 (w3.setCell ⟨g,3,none⟩ v) g ⟨x.s,x.h,x.b,v⟩ ss bs (fs ++ [p]):=by
 have hsz:=h.below.size
 have hlt:=h.blk.lt
 have hbl : Below W0.heap.size W0 w3:=(h.below.alloc hsz (.cells #[.int .i64 p.1,.int .i64 p.2] 114)).grown hg (by simp; omega) (fun k hk => (h.f.lt k hk).1)
 have hbk : Blk w3 g 62 #[x.s,.bool x.h,x.b,x.f]:=(h.blk.alloc _).grown hg (fun e => own_blk_ne h.f h.blk (by decide) e.symm)
 have hs:=own_other (h.s.alloc (.cells #[.int .i64 p.1,.int .i64 p.2] 114)) (h.f.alloc (.cells #[.int .i64 p.1,.int .i64 p.2] 114)) (by decide) hg
 have hb:=own_other (h.b.alloc (.cells #[.int .i64 p.1,.int .i64 p.2] 114)) (h.f.alloc (.cells #[.int .i64 p.1,.int .i64 p.2] 114)) (by decide) hg
 refine ⟨hbl,hbk,hbl.setCell (by simpa using h.lt) _,h.lt,by simpa using hbk.set_ 3 v,own_setQ hs _ _ (fun k hk e => own_blk_ne hs hbk (by decide) (by rw [hk,e])),own_setQ hb _ _ (fun k hk e => own_blk_ne hb hbk (by decide) (by rw [hk,e])),?_⟩
 have:=own_setQ ho ⟨g,3,none⟩ v (fun k hk e => own_blk_ne ho hbk (by decide) (by rw [hk,e]))
 simpa using this
theorem MoS.new1 {W0 w1 : World} {v : Value} {hh : Bool} {ss : List Bool} (hb : Below W0.heap.size W0 w1) (ho : w1.ownsRow W0.heap.size 4 1 v ss.length (ss.map Value.bool)) :
 MoS W0 (w1.alloc (.cells #[v,.bool hh,.slice none 0 0,.slice none 0 0] 62)) w1.heap.size ⟨v,hh,.slice none 0 0,.slice none 0 0⟩ ss [] [] :=
 ⟨hb.alloc hb.size _,hb.size,Blk.new w1 _ _,ho.alloc _,World.ownsRow_nil _ _ _ _,World.ownsRow_nil _ _ _ _⟩
theorem MoS.new2 {W0 w1 : World} {g : Nat} {v : Value} {hh : Bool} {ss : List Bool} {x0 x1 x2 x3 : Value} (hb : Below W0.heap.size W0 w1) (hm : Blk w1 g 62 #[x0,x1,x2,x3]) (hg : W0.heap.size ≤ g) (ho : w1.ownsRow W0.heap.size 4 1 v ss.length (ss.map Value.bool)) :
 MoS W0 ((((w1.setCell ⟨g,0,none⟩ v).setCell ⟨g,1,none⟩ (.bool hh)).setCell ⟨g,2,none⟩ (.slice none 0 0)).setCell ⟨g,3,none⟩ (.slice none 0 0)) g ⟨v,hh,.slice none 0 0,.slice none 0 0⟩ ss [] []:=by
 have hn:=fun (k : Nat) (hk : v.ownBlock = some k) (e : k = g) => own_blk_ne ho hm (by decide) (by rw [hk,e])
 refine ⟨(((hb.setCell (p:=⟨g,0,none⟩) hg _).setCell (p:=⟨g,1,none⟩) hg _).setCell (p:=⟨g,2,none⟩) hg _).setCell (p:=⟨g,3,none⟩) hg _,hg,by simpa using (((hm.set_ 0 v).set_ 1 (.bool hh)).set_ 2 (.slice none 0 0)).set_ 3 (.slice none 0 0),?_,World.ownsRow_nil _ _ _ _,World.ownsRow_nil _ _ _ _⟩
 exact own_setQ (own_setQ (own_setQ (own_setQ ho _ _ hn) _ _ hn) _ _ hn) _ _ hn
theorem MoS.fin {W0 wr : World} {g b1 B : Nat} {x : MV} {ss : List Bool} {bs : List Int} {fs : List (Int × Int)} {x0 x1 x2 x3 : Value} (h : MoS W0 wr g x ss bs fs) (hm : Blk wr b1 62 #[x0,x1,x2,x3]) (hB : B ≤ W0.heap.size) (u0 u1 u2 u3 : Value) :
 MomR ((((wr.setCell ⟨b1,0,none⟩ u0).setCell ⟨b1,1,none⟩ u1).setCell ⟨b1,2,none⟩ u2).setCell ⟨b1,3,none⟩ u3) B x ⟨ss,x.h,bs,fs⟩:=by
 have key : ∀ (size n : Nat) (t : TypeId) (v : Value) (xs : List Value),t ≠ 62 → wr.ownsRow W0.heap.size t size v n xs → ((((wr.setCell ⟨b1,0,none⟩ u0).setCell ⟨b1,1,none⟩ u1).setCell ⟨b1,2,none⟩ u2).setCell ⟨b1,3,none⟩ u3).ownsRow B t size v n xs:=fun size n t v xs hne ho => by
  have hn:=fun (k : Nat) (hk : v.ownBlock = some k) (e : k = b1) => own_blk_ne ho hm hne (by rw [hk,e])
  exact own_le (own_setQ (own_setQ (own_setQ (own_setQ ho _ _ hn) _ _ hn) _ _ hn) _ _ hn) hB
 exact ⟨key _ _ _ _ _ (by decide) h.s,rfl,key _ _ _ _ _ (by decide) h.b,key _ _ _ _ _ (by decide) h.f⟩
theorem placesF_all {zs : List Int} {n : Nat} (h : zs.length = n) (T : List Bool) : placesF (zs.take n) T = placesF zs T := by rw [List.take_of_length_le (Nat.le_of_eq h)]
theorem places_len2 (zs : List Int) (T : List Bool) (k : Nat) : (placesF (zs.take k) T).length ≤ zs.length := Nat.le_trans (placesF_len _ T) (by rw [List.length_take]; omega)

set_option maxHeartbeats 8000000 in
set_option maxRecDepth 100000 in
theorem rMoment_any (w : World) (V : CV) (C : Circ) (sv v : Value) (st T : List Bool) (h : C.In w V) (hrt : Right C) (hJ : sumL C.justice ≤ 16384) (hs : RowE 1 encO w sv st) (hsl : st.length ≤ 100000) (hv : RowE 1 encO w v T) (hT : T.length = C.max.toNat + 1) :
 Calls Tryz.prog 74 #[V.val C.max,sv,v] w fun e w' => ∃ x : MV,e = .returned (.agg #[x.s,.bool x.h,x.b,x.f]) ∧ Below w.heap.size w w' ∧ MomR w' w.heap.size x (momOf C st T):=by
 have hm0:=hrt.m0
 have hm1:=hrt.m1
 have hTl : T.length ≤ 100000:=by omega
 have HLO : Hid (∀ z,LitOk C z → 0 ≤ z ∧ z / 2 < (T.length : Int)):=zH (fun z hz => by unfold LitOk at hz; rw [hT]; omega)
 obtain ⟨sA,sc,rfl,hsr⟩:=hs.reads lenO (by omega)
 obtain ⟨i0,hi0,hz0,hz1,hz2⟩:=info_of2 infoO2
 obtain ⟨ii,hii,hiz0,hiz1,hiz2⟩:=info_of2 infoIS
 obtain ⟨ip,hip,hpz0,hpz1,hpz2⟩:=info_of2 infoPS
 have HI0:=zH (And.intro hi0 (And.intro hz0 (And.intro hz1 hz2)))
 have HII:=zH (And.intro hii (And.intro hiz0 (And.intro hiz1 hiz2)))
 have HIP:=zH (And.intro hip (And.intro hpz0 (And.intro hpz1 hpz2)))
 have HALLC:=zH (fun (wx : World) (hb : Below w.heap.size w wx) => rAll_any wx v V.c T C.constraints (hv.below hb) (h.below hb).c (fun z hz => HLO.out z (hrt.c z hz)) hTl (by have:=hrt.nc; omega))
 have HLIT:=zH (fun (wx : World) (hb : Below w.heap.size w wx) (l : Int) (h0 : LitOk C l) => (show Calls Tryz.prog 86 #[v,.int .i64 l] wx fun e w' => e = .returned (.bool (litV T l)) ∧ w' = wx from sLit_any wx v T l (hv.below hb) (HLO.out l h0).1 (HLO.out l h0).2 (by have:=HLO.out l h0; omega)))
 have hall : ∀ wz,Below ((w.alloc (.cells (V.cells C.max) 29)).alloc (.cells #[.slice none 0 0,.bool false,.slice none 0 0,.slice none 0 0] 62)).heap.size ((w.alloc (.cells (V.cells C.max) 29)).alloc (.cells #[.slice none 0 0,.bool false,.slice none 0 0,.slice none 0 0] 62)) wz →
  Blk wz w.heap.size 29 (V.cells C.max) ∧ Blk wz (w.heap.size + 1) 62 #[.slice none 0 0,.bool false,.slice none 0 0,.slice none 0 0] ∧ Below w.heap.size w wz:=fun wz hb => by
  have h1 : Below w.heap.size w wz:=(((Below.refl w.heap.size w).alloc zN _).alloc (by simp) _).trans (hb.mono (by simp; omega))
  have e1:=((Blk.new w 29 (V.cells C.max)).alloc (.cells #[.slice none 0 0,.bool false,.slice none 0 0,.slice none 0 0] 62)).below hb (by simp; omega)
  have e2:=(Blk.new (w.alloc (.cells (V.cells C.max) 29)) 62 #[.slice none 0 0,.bool false,.slice none 0 0,.slice none 0 0]).below hb (by simp)
  rw [show (w.alloc (.cells (V.cells C.max) 29)).heap.size = w.heap.size + 1 by simp] at e2
  exact ⟨e1,e2,h1⟩
 have hx0 : Below ((w.alloc (.cells (V.cells C.max) 29)).alloc (.cells #[.slice none 0 0,.bool false,.slice none 0 0,.slice none 0 0] 62)).heap.size ((w.alloc (.cells (V.cells C.max) 29)).alloc (.cells #[.slice none 0 0,.bool false,.slice none 0 0,.slice none 0 0] 62)) ((w.alloc (.cells (V.cells C.max) 29)).alloc (.cells #[.slice none 0 0,.bool false,.slice none 0 0,.slice none 0 0] 62)):=Below.refl _ _
 obtain ⟨AJ,cJ,eJ,hjm,hjr⟩:=h.j.at_
 have hnj:=hrt.nj
 have hnb:=hrt.nb
 have hnf:=hrt.nf
 have HRT:=zH hrt
 have HJL : Hid (∀ zs ∈ C.justice,zs.length ≤ 16384):=zH (fun zs hz => by have:=sumL_mem hz; omega)
 have HFL : Hid (∀ k,(fairG T (C.justice.take k) 0).length ≤ 16384):=zH (fun k => by have h1:=fairG_len T (C.justice.take k) 0; have h2:=sumL_take C.justice k; omega)
 obtain ⟨bA,bc,ebv,_,_,hbr⟩:=h.b
 obtain ⟨fA,fc,efv,_,_,hfr⟩:=h.f
 obtain ⟨hA,hn,hc,ecv⟩ : ∃ A n c,V.c = .slice A n c:=by obtain ⟨A,c,e,_⟩:=h.c; exact ⟨A,_,c,e⟩
 obtain ⟨Vi,Vl,Vo,Vb,Vc,Vj,Vf,Va,Vs,Vt⟩:=V
 simp only at eJ ebv efv ecv
 subst eJ ebv efv ecv
 obtain ⟨vA,vn,vc,hve⟩:=slO_form hv
 subst hve
 obtain ⟨m,hmm⟩ : ∃ m,C.max = m:=⟨_,rfl⟩
 obtain ⟨n,hnn⟩ : ∃ n,C.justice.length = n:=⟨_,rfl⟩
 obtain ⟨bn,hbn⟩ : ∃ n,C.bads.length = n:=⟨_,rfl⟩
 obtain ⟨fn,hfn⟩ : ∃ n,C.fairness.length = n:=⟨_,rfl⟩
 obtain ⟨sn,hsn⟩ : ∃ n,st.length = n:=⟨_,rfl⟩
 rw [hmm,hnn,hbn,hfn] at hall hx0
 rw [hnn] at hnj
 rw [hbn] at hnb
 rw [hfn] at hnf
 rw [hsn] at hsl hsr
 rw [hmm,hnn,hbn,hfn,hsn]
 have HALL:=zH hall
 have HX:=zH hx0
 have HSR:=zH hsr
 have HJR:=zH hjr
 have HBR:=zH hbr
 have HFR:=zH hfr
 have HNN:=zH (And.intro hnn (And.intro hbn (And.intro hfn hsn)))
 clear h hrt hJ hs hsr hv hT hm0 hm1 hTl hall hx0 hjm hjr hbr hfr hi0 hz0 hz1 hz2 hii hiz0 hiz1 hiz2 hip hpz0 hpz1 hpz2 hmm hnn hbn hfn hsn
 go_enter Tryz.func74,Tryz.ntmps74
 go_upto_region 1 with (fail)
 go_cut [7] (fun p wx => ∃ (g : Nat) (x : MV),p = .pointer (some ⟨g,0,none⟩) ∧ x.h = holdsF C T ∧ MoS ((w.alloc (.cells #[.int .i64 m,Vi,Vl,Vo,.slice bA bn bc,.slice hA hn hc,.slice AJ n cJ,.slice fA fn fc,Va,Vs,Vt] 29)).alloc (.cells #[.slice none 0 0,.bool false,.slice none 0 0,.slice none 0 0] 62)) wx g x st [] [])
 case first =>
  have hxd : Below ((w.alloc (.cells #[.int .i64 m,Vi,Vl,Vo,.slice bA bn bc,.slice hA hn hc,.slice AJ n cJ,.slice fA fn fc,Va,Vs,Vt] 29)).alloc (.cells #[.slice none 0 0,.bool false,.slice none 0 0,.slice none 0 0] 62)).heap.size ((w.alloc (.cells #[.int .i64 m,Vi,Vl,Vo,.slice bA bn bc,.slice hA hn hc,.slice AJ n cJ,.slice fA fn fc,Va,Vs,Vt] 29)).alloc (.cells #[.slice none 0 0,.bool false,.slice none 0 0,.slice none 0 0] 62)) ((w.alloc (.cells #[.int .i64 m,Vi,Vl,Vo,.slice bA bn bc,.slice hA hn hc,.slice AJ n cJ,.slice fA fn fc,Va,Vs,Vt] 29)).alloc (.cells #[.slice none 0 0,.bool false,.slice none 0 0,.slice none 0 0] 62)).drew:=HX.out.drew
  have HXD:=zH hxd
  have HOE1 : Hid ((((w.alloc (.cells #[.int .i64 m,Vi,Vl,Vo,.slice bA bn bc,.slice hA hn hc,.slice AJ n cJ,.slice fA fn fc,Va,Vs,Vt] 29)).alloc (.cells #[.slice none 0 0,.bool false,.slice none 0 0,.slice none 0 0] 62)).drew.alloc (.cells #[] 4)).ownsRow ((w.alloc (.cells #[.int .i64 m,Vi,Vl,Vo,.slice bA bn bc,.slice hA hn hc,.slice AJ n cJ,.slice fA fn fc,Va,Vs,Vt] 29)).alloc (.cells #[.slice none 0 0,.bool false,.slice none 0 0,.slice none 0 0] 62)).heap.size 4 1 (.slice (some ⟨w.heap.size + 1 + 1,0,none⟩) 0 0) 0 []):=zH (by have:=World.ownsRow_made (base:=((w.alloc (.cells #[.int .i64 m,Vi,Vl,Vo,.slice bA bn bc,.slice hA hn hc,.slice AJ n cJ,.slice fA fn fc,Va,Vs,Vt] 29)).alloc (.cells #[.slice none 0 0,.bool false,.slice none 0 0,.slice none 0 0] 62)).heap.size) (e:=4) (size:=1) ((w.alloc (.cells #[.int .i64 m,Vi,Vl,Vo,.slice bA bn bc,.slice hA hn hc,.slice AJ n cJ,.slice fA fn fc,Va,Vs,Vt] 29)).alloc (.cells #[.slice none 0 0,.bool false,.slice none 0 0,.slice none 0 0] 62)).drew #[] 0 zN (by simp [maxLen]) rfl; simpa using this)
  have HOE2 : Hid (((((w.alloc (.cells #[.int .i64 m,Vi,Vl,Vo,.slice bA bn bc,.slice hA hn hc,.slice AJ n cJ,.slice fA fn fc,Va,Vs,Vt] 29)).alloc (.cells #[.slice none 0 0,.bool false,.slice none 0 0,.slice none 0 0] 62)).drew.alloc (.cells #[.slice none 0 0,.bool false,.slice none 0 0,.slice none 0 0] 62)).alloc (.cells #[] 4)).ownsRow ((w.alloc (.cells #[.int .i64 m,Vi,Vl,Vo,.slice bA bn bc,.slice hA hn hc,.slice AJ n cJ,.slice fA fn fc,Va,Vs,Vt] 29)).alloc (.cells #[.slice none 0 0,.bool false,.slice none 0 0,.slice none 0 0] 62)).heap.size 4 1 (.slice (some ⟨w.heap.size + 1 + 1 + 1,0,none⟩) 0 0) 0 []):=zH (by have:=World.ownsRow_made (base:=((w.alloc (.cells #[.int .i64 m,Vi,Vl,Vo,.slice bA bn bc,.slice hA hn hc,.slice AJ n cJ,.slice fA fn fc,Va,Vs,Vt] 29)).alloc (.cells #[.slice none 0 0,.bool false,.slice none 0 0,.slice none 0 0] 62)).heap.size) (e:=4) (size:=1) (((w.alloc (.cells #[.int .i64 m,Vi,Vl,Vo,.slice bA bn bc,.slice hA hn hc,.slice AJ n cJ,.slice fA fn fc,Va,Vs,Vt] 29)).alloc (.cells #[.slice none 0 0,.bool false,.slice none 0 0,.slice none 0 0] 62)).drew.alloc (.cells #[.slice none 0 0,.bool false,.slice none 0 0,.slice none 0 0] 62)) #[] 0 (by simp) (by simp [maxLen]) rfl; simpa using this)
  have HRDS : Hid (∀ wx,Below ((w.alloc (.cells #[.int .i64 m,Vi,Vl,Vo,.slice bA bn bc,.slice hA hn hc,.slice AJ n cJ,.slice fA fn fc,Va,Vs,Vt] 29)).alloc (.cells #[.slice none 0 0,.bool false,.slice none 0 0,.slice none 0 0] 62)).heap.size ((w.alloc (.cells #[.int .i64 m,Vi,Vl,Vo,.slice bA bn bc,.slice hA hn hc,.slice AJ n cJ,.slice fA fn fc,Va,Vs,Vt] 29)).alloc (.cells #[.slice none 0 0,.bool false,.slice none 0 0,.slice none 0 0] 62)) wx → Reads wx w.heap.size 1 sA sn (st.flatMap encO) ∧ wx.cell? ⟨w.heap.size,5,none⟩ = some (.slice hA hn hc)):=zH (fun wx hb => ⟨HSR.out.below (HALL.out _ hb).2.2,(HALL.out _ hb).1.cell 5⟩)
  have c5:=(HRDS.out _ HXD.out).2
  clear hxd
  go_region_law ((first
   | (refine step_append_any _ rfl (.tmp 12) (.tmp 13) _ rfl ((w.alloc (.cells #[.int .i64 m,Vi,Vl,Vo,.slice bA bn bc,.slice hA hn hc,.slice AJ n cJ,.slice fA fn fc,Va,Vs,Vt] 29)).alloc (.cells #[.slice none 0 0,.bool false,.slice none 0 0,.slice none 0 0] 62)).heap.size 4 i0 _ 1 1 Tryz.underlying30 HI0.out.1 HI0.out.2.1 HI0.out.2.2.1 HI0.out.2.2.2 rfl (by omega) (.slice (some ⟨w.heap.size + 1 + 1,0,none⟩) 0 0) 0 [] (by simp [Act.eval]) HOE1.out w.heap.size sA sn sc (st.flatMap encO) (by simp [Act.eval]) ((HRDS.out _ (HXD.out.alloc zN _)).1) (flat_one oneO st) (by simp only [maxLen]; omega) (by omega) (by simp) ?_; intro v1 w1 hown1 hg1 hat1; have HX1:=zH ((HXD.out.alloc zN (.cells #[] 4)).grown hg1 (by simp) (fun k hk => (HOE1.out.lt k hk).1)); obtain ⟨A1,k1,he1⟩:=own_slice1 hown1; subst he1; have HOS : Hid (w1.ownsRow ((w.alloc (.cells #[.int .i64 m,Vi,Vl,Vo,.slice bA bn bc,.slice hA hn hc,.slice AJ n cJ,.slice fA fn fc,Va,Vs,Vt] 29)).alloc (.cells #[.slice none 0 0,.bool false,.slice none 0 0,.slice none 0 0] 62)).heap.size 4 1 (.slice A1 sn k1) st.length (st.map Value.bool)):=zH (by have h9:=hown1; rw [flat_bools] at h9; rw [HNN.out.2.2.2]; simpa using h9); have c5:=(HRDS.out _ HX1.out).2; have c6:=(HRDS.out _ (HX1.out.alloc HX1.out.size (.cells #[.slice none 0 0,.bool false,.slice none 0 0,.slice none 0 0] 62))).2; clear hown1 hg1 hat1)
   | (refine step_append_any _ rfl (.tmp 12) (.tmp 13) _ rfl ((w.alloc (.cells #[.int .i64 m,Vi,Vl,Vo,.slice bA bn bc,.slice hA hn hc,.slice AJ n cJ,.slice fA fn fc,Va,Vs,Vt] 29)).alloc (.cells #[.slice none 0 0,.bool false,.slice none 0 0,.slice none 0 0] 62)).heap.size 4 i0 _ 1 1 Tryz.underlying30 HI0.out.1 HI0.out.2.1 HI0.out.2.2.1 HI0.out.2.2.2 rfl (by omega) (.slice (some ⟨w.heap.size + 1 + 1,0,none⟩) 0 0) 0 [] (by simp [Act.eval]) (HOE1.out.alloc _) w.heap.size sA sn sc (st.flatMap encO) (by simp [Act.eval]) ((HRDS.out _ ((HXD.out.alloc zN _).alloc (by simp) _)).1) (flat_one oneO st) (by simp only [maxLen]; omega) (by omega) (by first | (simp; done) | (simp; omega)) ?_; intro v1 w1 hown1 hg1 hat1; have hmb : Blk w1 (w.heap.size + 1 + 1 + 1) 62 #[.slice none 0 0,.bool false,.slice none 0 0,.slice none 0 0]:=(by have h9:=(Blk.new (((w.alloc (.cells #[.int .i64 m,Vi,Vl,Vo,.slice bA bn bc,.slice hA hn hc,.slice AJ n cJ,.slice fA fn fc,Va,Vs,Vt] 29)).alloc (.cells #[.slice none 0 0,.bool false,.slice none 0 0,.slice none 0 0] 62)).drew.alloc (.cells #[] 4)) 62 #[.slice none 0 0,.bool false,.slice none 0 0,.slice none 0 0]).grown hg1 (by simp [Value.ownBlock]); simpa using h9); have HMB:=zH hmb; have HML : Hid (((w.alloc (.cells #[.int .i64 m,Vi,Vl,Vo,.slice bA bn bc,.slice hA hn hc,.slice AJ n cJ,.slice fA fn fc,Va,Vs,Vt] 29)).alloc (.cells #[.slice none 0 0,.bool false,.slice none 0 0,.slice none 0 0] 62)).heap.size ≤ w.heap.size + 1 + 1 + 1):=zH (by first | (simp; done) | (simp; omega)); have k0:=hmb.cell 0; have k1':=hmb.cell 1; have k2:=hmb.cell 2; have k3:=hmb.cell 3; have k4:=hmb.frozen 0; have k5:=hmb.frozen 1; have k6:=hmb.frozen 2; have k7:=hmb.frozen 3; simp only [List.getElem?_toArray,List.getElem?_cons_zero,List.getElem?_cons_succ] at k0 k1' k2 k3; clear hmb; have HX1:=zH (((HXD.out.alloc zN (.cells #[] 4)).alloc (by simp) (.cells #[.slice none 0 0,.bool false,.slice none 0 0,.slice none 0 0] 62)).grown hg1 (by first | (simp; done) | (simp; omega)) (fun k hk => ((HOE1.out.alloc (.cells #[.slice none 0 0,.bool false,.slice none 0 0,.slice none 0 0] 62)).lt k hk).1)); obtain ⟨A1,k1,he1⟩:=own_slice1 hown1; subst he1; have HOS : Hid (w1.ownsRow ((w.alloc (.cells #[.int .i64 m,Vi,Vl,Vo,.slice bA bn bc,.slice hA hn hc,.slice AJ n cJ,.slice fA fn fc,Va,Vs,Vt] 29)).alloc (.cells #[.slice none 0 0,.bool false,.slice none 0 0,.slice none 0 0] 62)).heap.size 4 1 (.slice A1 sn k1) st.length (st.map Value.bool)):=zH (by have h9:=hown1; rw [flat_bools] at h9; rw [HNN.out.2.2.2]; simpa using h9); have c5:=(HRDS.out _ HX1.out).2; have c6:=(HRDS.out _ (HX1.out.alloc HX1.out.size (.cells #[.slice none 0 0,.bool false,.slice none 0 0,.slice none 0 0] 62))).2; clear hown1 hg1 hat1)
   | (refine step_append_any _ rfl (.tmp 12) (.tmp 13) _ rfl ((w.alloc (.cells #[.int .i64 m,Vi,Vl,Vo,.slice bA bn bc,.slice hA hn hc,.slice AJ n cJ,.slice fA fn fc,Va,Vs,Vt] 29)).alloc (.cells #[.slice none 0 0,.bool false,.slice none 0 0,.slice none 0 0] 62)).heap.size 4 i0 _ 1 1 Tryz.underlying30 HI0.out.1 HI0.out.2.1 HI0.out.2.2.1 HI0.out.2.2.2 rfl (by omega) (.slice (some ⟨w.heap.size + 1 + 1 + 1,0,none⟩) 0 0) 0 [] (by simp [Act.eval]) (HOE2.out) w.heap.size sA sn sc (st.flatMap encO) (by simp [Act.eval]) ((HRDS.out _ ((HXD.out.alloc zN _).alloc (by simp) _)).1) (flat_one oneO st) (by simp only [maxLen]; omega) (by omega) (by first | (simp; done) | (simp; omega)) ?_; intro v1 w1 hown1 hg1 hat1; have hmb : Blk w1 (w.heap.size + 1 + 1) 62 #[.slice none 0 0,.bool false,.slice none 0 0,.slice none 0 0]:=(by have h9:=((Blk.new ((w.alloc (.cells #[.int .i64 m,Vi,Vl,Vo,.slice bA bn bc,.slice hA hn hc,.slice AJ n cJ,.slice fA fn fc,Va,Vs,Vt] 29)).alloc (.cells #[.slice none 0 0,.bool false,.slice none 0 0,.slice none 0 0] 62)).drew 62 #[.slice none 0 0,.bool false,.slice none 0 0,.slice none 0 0]).alloc (.cells #[] 4)).grown hg1 (by simp [Value.ownBlock]); simpa using h9); have HMB:=zH hmb; have HML : Hid (((w.alloc (.cells #[.int .i64 m,Vi,Vl,Vo,.slice bA bn bc,.slice hA hn hc,.slice AJ n cJ,.slice fA fn fc,Va,Vs,Vt] 29)).alloc (.cells #[.slice none 0 0,.bool false,.slice none 0 0,.slice none 0 0] 62)).heap.size ≤ w.heap.size + 1 + 1):=zH (by first | (simp; done) | (simp; omega)); have k0:=hmb.cell 0; have k1':=hmb.cell 1; have k2:=hmb.cell 2; have k3:=hmb.cell 3; have k4:=hmb.frozen 0; have k5:=hmb.frozen 1; have k6:=hmb.frozen 2; have k7:=hmb.frozen 3; simp only [List.getElem?_toArray,List.getElem?_cons_zero,List.getElem?_cons_succ] at k0 k1' k2 k3; clear hmb; have HX1:=zH (((HXD.out.alloc zN (.cells #[.slice none 0 0,.bool false,.slice none 0 0,.slice none 0 0] 62)).alloc (by simp) (.cells #[] 4)).grown hg1 (by first | (simp; done) | (simp; omega)) (fun k hk => (HOE2.out.lt k hk).1)); obtain ⟨A1,k1,he1⟩:=own_slice1 hown1; subst he1; have HOS : Hid (w1.ownsRow ((w.alloc (.cells #[.int .i64 m,Vi,Vl,Vo,.slice bA bn bc,.slice hA hn hc,.slice AJ n cJ,.slice fA fn fc,Va,Vs,Vt] 29)).alloc (.cells #[.slice none 0 0,.bool false,.slice none 0 0,.slice none 0 0] 62)).heap.size 4 1 (.slice A1 sn k1) st.length (st.map Value.bool)):=zH (by have h9:=hown1; rw [flat_bools] at h9; rw [HNN.out.2.2.2]; simpa using h9); have c5:=(HRDS.out _ HX1.out).2; have c6:=(HRDS.out _ (HX1.out.alloc HX1.out.size (.cells #[.slice none 0 0,.bool false,.slice none 0 0,.slice none 0 0] 62))).2; clear hown1 hg1 hat1)
   | (go_simp; go_at_call 87; refine (HALLC.out _ (HALL.out _ HX1.out).2.2).mono ?_; rintro e w2 ⟨rfl,rfl⟩)
   | (go_simp; go_at_call 87; refine (HALLC.out _ (HALL.out _ (HX1.out.alloc HX1.out.size _)).2.2).mono ?_; rintro e w2 ⟨rfl,rfl⟩)))
  all_goals (
   go_wp2_with fail
   go_meet)
  all_goals (
   first
    | exact ⟨_,⟨.slice A1 sn k1,holdsF C T,.slice none 0 0,.slice none 0 0⟩,rfl,rfl,MoS.new1 HX1.out HOS.out⟩
    | exact ⟨_,⟨.slice A1 sn k1,holdsF C T,.slice none 0 0,.slice none 0 0⟩,rfl,rfl,MoS.new2 HX1.out HMB.out HML.out HOS.out⟩)
 case rest =>
  obtain ⟨g,x,rfl,hxh,hms⟩:=hcut
  have hW0s : w.heap.size ≤ ((w.alloc (.cells #[.int .i64 m,Vi,Vl,Vo,.slice bA bn bc,.slice hA hn hc,.slice AJ n cJ,.slice fA fn fc,Va,Vs,Vt] 29)).alloc (.cells #[.slice none 0 0,.bool false,.slice none 0 0,.slice none 0 0] 62)).heap.size ∧ w.heap.size + 1 < ((w.alloc (.cells #[.int .i64 m,Vi,Vl,Vo,.slice bA bn bc,.slice hA hn hc,.slice AJ n cJ,.slice fA fn fc,Va,Vs,Vt] 29)).alloc (.cells #[.slice none 0 0,.bool false,.slice none 0 0,.slice none 0 0] 62)).heap.size:=by simp; omega
  generalize ((w.alloc (.cells #[.int .i64 m,Vi,Vl,Vo,.slice bA bn bc,.slice hA hn hc,.slice AJ n cJ,.slice fA fn fc,Va,Vs,Vt] 29)).alloc (.cells #[.slice none 0 0,.bool false,.slice none 0 0,.slice none 0 0] 62)) = W0 at HALL hms hW0s
  have HWS:=zH hW0s
  clear hW0s
  obtain ⟨xs,xh,xb,xf⟩:=x
  simp only at hxh
  subst hxh
  obtain ⟨sA2,sc2,hse⟩:=own_slice1 hms.s
  simp only at hse
  subst hse
  have HM0:=zH hms
  clear hms HX
  go_wp2
  go_loopg [8] bn (fun j iv wr => ∃ (k : Nat) (bv : Value),k ≤ bn ∧ iv = .int .i64 k ∧ j = bn - k ∧ MoS W0 wr g ⟨.slice sA2 st.length sc2,holdsF C T,bv,xf⟩ st (placesF (C.bads.take k) T) [])
  case atStart => exact ⟨0,_,Nat.zero_le _,rfl,rfl,HM0.out⟩
  case round =>
   obtain ⟨k,bv,hk,rfl,hgk,hms⟩:=hrel
   subst hgk
   have HM:=zH hms
   clear hms HM0
   obtain ⟨bs,hbs⟩ : ∃ bs,placesF (C.bads.take k) T = bs:=⟨_,rfl⟩
   have hbl:=places_len2 C.bads T k
   rw [hbs,HNN.out.2.1] at hbl
   rw [hbs] at HM
   obtain ⟨Ab,cb,hbe⟩:=own_slice1 HM.out.b
   simp only at hbe
   subst hbe
   obtain ⟨c0,c1,c2,c3,c4,c5,c6,c7,c8,c9,c10⟩:=rbox_of (HALL.out _ HM.out.below).1
   by_cases hlt : k < bn
   · obtain ⟨z,hz⟩ : ∃ z,C.bads[k]? = some z:=⟨_,List.getElem?_eq_getElem (by rw [HNN.out.2.1]; exact hlt)⟩
     obtain ⟨b,off,e,hb,hcell⟩:=HBR.out k z hz
     subst e
     have i0:=((HALL.out _ HM.out.below).2.2.cell (p:=⟨b,off + (k * 1 + 0),none⟩) hb).trans (hcell 0 _ rfl)
     simp only [Nat.add_zero,Nat.mul_one] at i0
     have hcall:=HLIT.out wr (HALL.out _ HM.out.below).2.2 z (HRT.out.b z (List.mem_of_getElem? hz))
     have hst:=places_step hz T
     rw [hbs] at hst
     have HST:=zH hst
     clear hz hcell hst hbs
     cases hlv : litV T z
     · rw [hlv] at hcall
       have HC:=zH hcall
       have HTK : Hid (placesF (C.bads.take (k + 1)) T = bs):=zH (by rw [HST.out,hlv]; simp)
       clear hcall hlv HST
       go_wp2_with (go_at_call 86; refine HC.out.mono ?_; rintro e w2 ⟨rfl,rfl⟩)
       go_roundg (bn - (k + 1))
       case measure => omega
       case rel => exact ⟨k + 1,_,by omega,by go_num,rfl,by rw [HTK.out]; exact HM.out⟩
     · rw [hlv] at hcall
       have HC:=zH hcall
       have HTK : Hid (placesF (C.bads.take (k + 1)) T = bs ++ [(k : Int)]):=zH (by rw [HST.out,hlv]; simp)
       have m0:=HM.out.blk.cell 2
       have m1:=HM.out.blk.frozen 2
       have m2:=HM.out.blk.lt
       simp only [List.getElem?_toArray,List.getElem?_cons_zero,List.getElem?_cons_succ] at m0
       clear hcall hlv HST
       go_wp2_with (first
        | (go_at_call 86; refine HC.out.mono ?_; rintro e w2 ⟨rfl,rfl⟩)
        | (at_builtin; refine wpList_append_any _ rfl (.tmp 35) (.tmp 37) _ rfl W0.heap.size 3 ii _ 1 8 Tryz.underlying22 HII.out.1 HII.out.2.1 HII.out.2.2.1 HII.out.2.2.2 rfl (by omega) (.slice Ab bs.length cb) bs.length (bs.map (Value.int .i64)) rfl (HM.out.b.alloc _) (w2.heap.size + 1) (some ⟨w2.heap.size,0,none⟩) 1 1 [.int .i64 (k : Int)] rfl (reads_oneS _ _ _) (by simp [Value.oneCell']) (by simp only [maxLen]; omega) (by omega) (by have:=HM.out.below.size; first | (simp; done) | (simp; omega) | (simp at this ⊢; omega)) ?_; intro v3 w3 hown3 hg3 hat3; obtain ⟨A3,k3',he3⟩:=own_slice1 hown3; subst he3; obtain ⟨hbl3,hbk3,hmo3⟩:=HM.out.putB hown3 hg3; have HMO:=zH hmo3; have k0:=hbk3.cell 2; have k1:=hbk3.frozen 2; have k2:=hbk3.lt; simp only [List.getElem?_toArray,List.getElem?_cons_zero,List.getElem?_cons_succ] at k0; clear hown3 hg3 hat3 hbl3 hbk3 hmo3))
       go_roundg (bn - (k + 1))
       case measure => omega
       case rel => exact ⟨k + 1,_,by omega,by go_num,rfl,by rw [HTK.out]; exact HMO.out⟩
   · have hke : k = bn:=by omega
     have hfin : placesF C.bads T = bs:=by rw [← hbs,hke]; exact (placesF_all HNN.out.2.1 T).symm
     have HFB:=zH hfin
     have hms:=HM.out
     clear HM hbs hfin hke
     have HM1:=zH hms
     clear hms
     go_wp2
     go_loopg [9] n (fun j iv wz => ∃ (k2 : Nat) (fv : Value),k2 ≤ n ∧ iv = .int .i64 k2 ∧ j = n - k2 ∧ MoS W0 wz g ⟨.slice sA2 st.length sc2,holdsF C T,.slice Ab bs.length cb,fv⟩ st bs (fairG T (C.justice.take k2) 0))
     case atStart => exact ⟨0,_,Nat.zero_le _,rfl,rfl,HM1.out⟩
     case round =>
      obtain ⟨k2,fv,hk2,rfl,hgk,hms⟩:=hrel
      subst hgk
      have HM:=zH hms
      clear hms HM1 c0 c1 c2 c3 c4 c5 c6 c7 c8 c9 c10
      obtain ⟨fs,hfs⟩ : ∃ fs,fairG T (C.justice.take k2) 0 = fs:=⟨_,rfl⟩
      have hfl:=HFL.out k2
      rw [hfs] at hfl
      rw [hfs] at HM
      obtain ⟨c0,c1,c2,c3,c4,c5,c6,c7,c8,c9,c10⟩:=rbox_of (HALL.out _ HM.out.below).1
      by_cases hlt2 : k2 < n
      · obtain ⟨zs,hz⟩ : ∃ zs,C.justice[k2]? = some zs:=⟨_,List.getElem?_eq_getElem (by rw [HNN.out.1]; exact hlt2)⟩
        obtain ⟨b,off,u,e,hb,hu,hru⟩:=HJR.out k2 zs hz
        subst e
        have hzl:=HJL.out zs (List.mem_of_getElem? hz)
        have HZL:=zH (HRT.out.j zs (List.mem_of_getElem? hz))
        have hst:=fair_step hz T
        rw [hfs] at hst
        have HST2:=zH hst
        obtain ⟨uA,uc,hue,_,_,hur⟩:=hru
        subst hue
        obtain ⟨nz,hnz⟩ : ∃ nz,zs.length = nz:=⟨_,rfl⟩
        rw [hnz] at hu hzl
        have HNZ:=zH hnz
        have HUR:=zH hur
        have HCU : Hid (∀ wz,Below W0.heap.size W0 wz → wz.cell? ⟨b,off + k2,none⟩ = some (.slice uA nz uc)):=zH (fun wz hbz => ((HALL.out _ hbz).2.2.cell (p:=⟨b,off + k2,none⟩) hb).trans hu)
        clear hz hu hst hnz hur hfs
        go_wp2
        go_loopg [10] nz (fun j iv wy => ∃ (q : Nat) (fw : Value),q ≤ nz ∧ iv = .int .i64 q ∧ j = nz - q ∧ MoS W0 wy g ⟨.slice sA2 st.length sc2,holdsF C T,.slice Ab bs.length cb,fw⟩ st bs (fs ++ (placesF (zs.take q) T).map (fun p => ((k2 : Int),p))))
        case atStart => exact ⟨0,_,Nat.zero_le _,rfl,rfl,by simpa [placesF,placesG] using HM.out⟩
        case round =>
         obtain ⟨q,fw,hq,rfl,hgk,hms⟩:=hrel
         subst hgk
         clear HM c0 c1 c2 c3 c4 c5 c6 c7 c8 c9 c10
         have HM:=zH hms
         clear hms
         obtain ⟨ps,hps⟩ : ∃ ps,placesF (zs.take q) T = ps:=⟨_,rfl⟩
         have hpl:=places_len2 zs T q
         rw [hps,HNZ.out] at hpl
         obtain ⟨gs,hgs⟩ : ∃ gs,fs ++ ps.map (fun p => ((k2 : Int),p)) = gs:=⟨_,rfl⟩
         have hgl : gs.length ≤ 40000:=by rw [← hgs]; simp; omega
         rw [hps,hgs] at HM
         obtain ⟨Af,cf,hfe⟩:=own_slice1 HM.out.f
         simp only at hfe
         subst hfe
         obtain ⟨c0,c1,c2,c3,c4,c5,c6,c7,c8,c9,c10⟩:=rbox_of (HALL.out _ HM.out.below).1
         have hcq:=HCU.out _ HM.out.below
         by_cases hlq : q < nz
         · obtain ⟨z,hz⟩ : ∃ z,zs[q]? = some z:=⟨_,List.getElem?_eq_getElem (by rw [HNZ.out]; exact hlq)⟩
           obtain ⟨b2,off2,e,hb,hcell⟩:=HUR.out q z hz
           subst e
           have i0:=((HALL.out _ HM.out.below).2.2.cell (p:=⟨b2,off2 + (q * 1 + 0),none⟩) hb).trans (hcell 0 _ rfl)
           simp only [Nat.add_zero,Nat.mul_one] at i0
           have hcall:=HLIT.out _ (HALL.out _ HM.out.below).2.2 z (HZL.out z (List.mem_of_getElem? hz))
           have hst:=places_step hz T
           rw [hps] at hst
           have hgs2:=hgs
           have HST:=zH (And.intro hst hgs2)
           clear hz hcell hst hgs2 hps hgs
           cases hlv : litV T z
           · rw [hlv] at hcall
             have HC:=zH hcall
             have HTK : Hid (fs ++ (placesF (zs.take (q + 1)) T).map (fun p => ((k2 : Int),p)) = gs):=zH (by rw [HST.out.1,hlv,← HST.out.2]; simp)
             clear hcall hlv HST
             go_wp2_with (go_at_call 86; refine HC.out.mono ?_; rintro e w2 ⟨rfl,rfl⟩)
             go_roundg (nz - (q + 1))
             case measure => omega
             case rel => exact ⟨q + 1,_,by omega,by go_num,rfl,by rw [HTK.out]; exact HM.out⟩
           · rw [hlv] at hcall
             have HC:=zH hcall
             have HTK : Hid (fs ++ (placesF (zs.take (q + 1)) T).map (fun p => ((k2 : Int),p)) = gs ++ [((k2 : Int),(q : Int))]):=zH (by rw [HST.out.1,hlv,← HST.out.2]; simp)
             have m0:=HM.out.blk.cell 3
             have m1:=HM.out.blk.frozen 3
             have m2:=HM.out.blk.lt
             simp only [List.getElem?_toArray,List.getElem?_cons_zero,List.getElem?_cons_succ] at m0
             clear hcall hlv HST
             go_wp2_with (first
              | (go_at_call 86; refine HC.out.mono ?_; rintro e w2 ⟨rfl,rfl⟩)
              | (at_builtin; refine wpList_append_any _ rfl (.tmp 68) (.tmp 72) _ rfl W0.heap.size 114 ip _ 2 16 Tryz.underlying60 HIP.out.1 HIP.out.2.1 HIP.out.2.2.1 HIP.out.2.2.2 rfl (by omega) (.slice Af gs.length cf) gs.length (gs.flatMap encQ) rfl (HM.out.f.alloc _) (w2.heap.size + 1) (some ⟨w2.heap.size,0,none⟩) 1 1 [.int .i64 (k2 : Int),.int .i64 (q : Int)] rfl (reads_twoQ _ _ _ _) (by simp [Value.oneCell']) (by simp only [maxLen]; omega) (by omega) (by have:=HM.out.below.size; first | (simp; done) | (simp; omega) | (simp at this ⊢; omega)) ?_; intro v3 w3 hown3 hg3 hat3; obtain ⟨A3,k3',he3⟩:=own_slice1 hown3; subst he3; obtain ⟨hbl3,hbk3,hmo3⟩:=HM.out.putF (p:=((k2 : Int),(q : Int))) hown3 hg3; have HMO:=zH hmo3; have k0:=hbk3.cell 3; have k1:=hbk3.frozen 3; have k2':=hbk3.lt; simp only [List.getElem?_toArray,List.getElem?_cons_zero,List.getElem?_cons_succ] at k0; clear hown3 hg3 hat3 hbl3 hbk3 hmo3))
             go_roundg (nz - (q + 1))
             case measure => omega
             case rel => exact ⟨q + 1,_,by omega,by go_num,rfl,by rw [HTK.out]; exact HMO.out⟩
         · have hqe : q = nz:=by omega
           have hfin : fs ++ (placesF zs T).map (fun p => ((k2 : Int),p)) = gs:=by rw [← hgs,← hps,hqe,placesF_all HNZ.out T]
           have HFN:=zH hfin
           clear hps hgs hfin hqe
           go_wp2
           go_roundg (n - (k2 + 1))
           case measure => omega
           case rel => exact ⟨k2 + 1,_,by omega,by go_num,rfl,by rw [HST2.out,HFN.out]; exact HM.out⟩
      · have hke2 : k2 = n:=by omega
        have HFJ : Hid (fairG T C.justice 0 = fs):=zH (by rw [← hfs,hke2,List.take_of_length_le (Nat.le_of_eq HNN.out.1)])
        clear hfs hke2
        go_wp2
        go_loopg [11] fn (fun j iv wy => ∃ (q : Nat) (fw : Value),q ≤ fn ∧ iv = .int .i64 q ∧ j = fn - q ∧ MoS W0 wy g ⟨.slice sA2 st.length sc2,holdsF C T,.slice Ab bs.length cb,fw⟩ st bs (fs ++ (placesF (C.fairness.take q) T).map (fun p => ((-1 : Int),p))))
        case atStart => exact ⟨0,_,Nat.zero_le _,rfl,rfl,by simpa [placesF,placesG] using HM.out⟩
        case round =>
         obtain ⟨q,fw,hq,rfl,hgk,hms⟩:=hrel
         subst hgk
         clear HM c0 c1 c2 c3 c4 c5 c6 c7 c8 c9 c10
         have HM:=zH hms
         clear hms
         obtain ⟨ps,hps⟩ : ∃ ps,placesF (C.fairness.take q) T = ps:=⟨_,rfl⟩
         have hpl:=places_len2 C.fairness T q
         rw [hps,HNN.out.2.2.1] at hpl
         obtain ⟨gs,hgs⟩ : ∃ gs,fs ++ ps.map (fun p => ((-1 : Int),p)) = gs:=⟨_,rfl⟩
         have hgl : gs.length ≤ 40000:=by rw [← hgs]; simp; omega
         rw [hps,hgs] at HM
         obtain ⟨Af,cf,hfe⟩:=own_slice1 HM.out.f
         simp only at hfe
         subst hfe
         obtain ⟨c0,c1,c2,c3,c4,c5,c6,c7,c8,c9,c10⟩:=rbox_of (HALL.out _ HM.out.below).1
         skip
         by_cases hlq : q < fn
         · obtain ⟨z,hz⟩ : ∃ z,C.fairness[q]? = some z:=⟨_,List.getElem?_eq_getElem (by rw [HNN.out.2.2.1]; exact hlq)⟩
           obtain ⟨b2,off2,e,hb,hcell⟩:=HFR.out q z hz
           subst e
           have i0:=((HALL.out _ HM.out.below).2.2.cell (p:=⟨b2,off2 + (q * 1 + 0),none⟩) hb).trans (hcell 0 _ rfl)
           simp only [Nat.add_zero,Nat.mul_one] at i0
           have hcall:=HLIT.out _ (HALL.out _ HM.out.below).2.2 z (HRT.out.f z (List.mem_of_getElem? hz))
           have hst:=places_step hz T
           rw [hps] at hst
           have hgs2:=hgs
           have HST:=zH (And.intro hst hgs2)
           clear hz hcell hst hgs2 hps hgs
           cases hlv : litV T z
           · rw [hlv] at hcall
             have HC:=zH hcall
             have HTK : Hid (fs ++ (placesF (C.fairness.take (q + 1)) T).map (fun p => ((-1 : Int),p)) = gs):=zH (by rw [HST.out.1,hlv,← HST.out.2]; simp)
             clear hcall hlv HST
             go_wp2_with (go_at_call 86; refine HC.out.mono ?_; rintro e w2 ⟨rfl,rfl⟩)
             go_roundg (fn - (q + 1))
             case measure => omega
             case rel => exact ⟨q + 1,_,by omega,by go_num,rfl,by rw [HTK.out]; exact HM.out⟩
           · rw [hlv] at hcall
             have HC:=zH hcall
             have HTK : Hid (fs ++ (placesF (C.fairness.take (q + 1)) T).map (fun p => ((-1 : Int),p)) = gs ++ [((-1 : Int),(q : Int))]):=zH (by rw [HST.out.1,hlv,← HST.out.2]; simp)
             have m0:=HM.out.blk.cell 3
             have m1:=HM.out.blk.frozen 3
             have m2:=HM.out.blk.lt
             simp only [List.getElem?_toArray,List.getElem?_cons_zero,List.getElem?_cons_succ] at m0
             clear hcall hlv HST
             go_wp2_with (first
              | (go_at_call 86; refine HC.out.mono ?_; rintro e w2 ⟨rfl,rfl⟩)
              | (at_builtin; refine wpList_append_any _ rfl (.tmp 90) (.tmp 93) _ rfl W0.heap.size 114 ip _ 2 16 Tryz.underlying60 HIP.out.1 HIP.out.2.1 HIP.out.2.2.1 HIP.out.2.2.2 rfl (by omega) (.slice Af gs.length cf) gs.length (gs.flatMap encQ) rfl (HM.out.f.alloc _) (w2.heap.size + 1) (some ⟨w2.heap.size,0,none⟩) 1 1 [.int .i64 (-1 : Int),.int .i64 (q : Int)] rfl (reads_twoQ _ _ _ _) (by simp [Value.oneCell']) (by simp only [maxLen]; omega) (by omega) (by have:=HM.out.below.size; first | (simp; done) | (simp; omega) | (simp at this ⊢; omega)) ?_; intro v3 w3 hown3 hg3 hat3; obtain ⟨A3,k3',he3⟩:=own_slice1 hown3; subst he3; obtain ⟨hbl3,hbk3,hmo3⟩:=HM.out.putF (p:=((-1 : Int),(q : Int))) hown3 hg3; have HMO:=zH hmo3; have k0:=hbk3.cell 3; have k1:=hbk3.frozen 3; have k2':=hbk3.lt; simp only [List.getElem?_toArray,List.getElem?_cons_zero,List.getElem?_cons_succ] at k0; clear hown3 hg3 hat3 hbl3 hbk3 hmo3))
             go_roundg (fn - (q + 1))
             case measure => omega
             case rel => exact ⟨q + 1,_,by omega,by go_num,rfl,by rw [HTK.out]; exact HMO.out⟩
         · have hqe : q = fn:=by omega
           have hfin : fs ++ (placesF C.fairness T).map (fun p => ((-1 : Int),p)) = gs:=by rw [← hgs,← hps,hqe,placesF_all HNN.out.2.2.1 T]
           have HFN:=zH hfin
           clear hps hgs hfin hqe
           have hbk:=(HALL.out _ HM.out.below).2.1
           have hmr:=HM.out.fin hbk HWS.out.1 (.slice sA2 st.length sc2) (.bool (holdsF C T)) (.slice Ab bs.length cb) (.slice Af gs.length cf)
           have hbf:=(((((HALL.out _ HM.out.below).2.2).setCell (p:=⟨w.heap.size + 1,0,none⟩) (by simp) (.slice sA2 st.length sc2)).setCell (p:=⟨w.heap.size + 1,1,none⟩) (by simp) (.bool (holdsF C T))).setCell (p:=⟨w.heap.size + 1,2,none⟩) (by simp) (.slice Ab bs.length cb)).setCell (p:=⟨w.heap.size + 1,3,none⟩) (by simp) (.slice Af gs.length cf)
           have hmb:=Blk.set_ (Blk.set_ (Blk.set_ (Blk.set_ hbk 0 (.slice sA2 st.length sc2)) 1 (.bool (holdsF C T))) 2 (.slice Ab bs.length cb)) 3 (.slice Af gs.length cf)
           have q0:=hbk.cell 0
           have q1:=hbk.cell 1
           have q2:=hbk.cell 2
           have q3:=hbk.cell 3
           have q4:=hbk.frozen 0
           have q5:=hbk.frozen 1
           have q6:=hbk.frozen 2
           have q7:=hbk.frozen 3
           have q8:=hbk.lt
           have m0:=HM.out.blk.cell 0
           have m1:=HM.out.blk.cell 1
           have m2:=HM.out.blk.cell 2
           have m3:=HM.out.blk.cell 3
           simp only [List.getElem?_toArray,List.getElem?_cons_zero,List.getElem?_cons_succ] at q0 q1 q2 q3 m0 m1 m2 m3
           obtain ⟨X,hX⟩ : ∃ X,X = ((((wr.setCell ⟨w.heap.size + 1,0,none⟩ (.slice sA2 st.length sc2)).setCell ⟨w.heap.size + 1,1,none⟩ (.bool (holdsF C T))).setCell ⟨w.heap.size + 1,2,none⟩ (.slice Ab bs.length cb)).setCell ⟨w.heap.size + 1,3,none⟩ (.slice Af gs.length cf)):=⟨_,rfl⟩
           rw [← hX] at hmr hbf hmb
           have z0 : X.cell? ⟨w.heap.size + 1,0,none⟩ = some (.slice sA2 st.length sc2):=by rw [hmb.cell]; rfl
           have z1 : X.cell? ⟨w.heap.size + 1,1,none⟩ = some (.bool (holdsF C T)):=by rw [hmb.cell]; rfl
           have z2 : X.cell? ⟨w.heap.size + 1,2,none⟩ = some (.slice Ab bs.length cb):=by rw [hmb.cell]; rfl
           have z3 : X.cell? ⟨w.heap.size + 1,3,none⟩ = some (.slice Af gs.length cf):=by rw [hmb.cell]; rfl
           have hme : momOf C st T = ⟨st,holdsF C T,bs,gs⟩:=by
            unfold momOf fairF
            rw [HFB.out,HFJ.out,HFN.out]
           have HFIN:=zH (And.intro hbf (And.intro hmr hme))
           have HXX:=zH hX
           clear hbk hmr hbf hmb hme hX
           go_wp2
           rw [← HXX.out]
           refine bodyPost_ret (v:=.agg #[.slice sA2 st.length sc2,.bool (holdsF C T),.slice Ab bs.length cb,.slice Af gs.length cf]) (by simp [results,Tryz.results74,go_sem,z0,z1,z2,z3]) rfl ?_
           rw [HFIN.out.2.2]
           exact ⟨⟨_,_,_,_⟩,rfl,HFIN.out.1,HFIN.out.2.1⟩
open Go.RowKit

set_option maxHeartbeats 8000000 in
set_option maxRecDepth 100000 in
theorem rFits_any (w : World) (V : CV) (C : Circ) (U : TV) (t : Tr) (h : C.In w V) (ht : t.In w U) :
 Calls Tryz.prog 18 #[V.val C.max,U.val t.loop] w fun e w' => e = .returned (.bool (fitsB C t)) ∧ Below w.heap.size w w':=by
 have hall : ∀ wz,Below ((w.alloc (.cells (V.cells C.max) 29)).alloc (.cells (U.cells t.loop) 33)).heap.size ((w.alloc (.cells (V.cells C.max) 29)).alloc (.cells (U.cells t.loop) 33)) wz →
  Blk wz w.heap.size 29 (V.cells C.max) ∧ Blk wz (w.heap.size + 1) 33 (U.cells t.loop) ∧ Below w.heap.size w wz:=fun wz hb => by
  have h1 : Below w.heap.size w wz:=(((Below.refl w.heap.size w).alloc zN _).alloc (by simp) _).trans (hb.mono (by simp; omega))
  have e1:=((Blk.new w 29 (V.cells C.max)).alloc (.cells (U.cells t.loop) 33)).below hb (by simp; omega)
  have e2:=(Blk.new (w.alloc (.cells (V.cells C.max) 29)) 33 (U.cells t.loop)).below hb (by simp)
  rw [show (w.alloc (.cells (V.cells C.max) 29)).heap.size = w.heap.size + 1 by simp] at e2
  exact ⟨e1,e2,h1⟩
 have hx0 : Below ((w.alloc (.cells (V.cells C.max) 29)).alloc (.cells (U.cells t.loop) 33)).heap.size ((w.alloc (.cells (V.cells C.max) 29)).alloc (.cells (U.cells t.loop) 33)) ((w.alloc (.cells (V.cells C.max) 29)).alloc (.cells (U.cells t.loop) 33)):=Below.refl _ _
 obtain ⟨AL,cL,eL,hnlm⟩:=len_form h.l
 obtain ⟨AN,cN,eN,hnnm⟩:=len_form h.i
 obtain ⟨AI,cI,eI,hnim⟩:=len_form ht.i
 obtain ⟨AR,cR,eR,hrm,hrr⟩:=ht.r.at_
 obtain ⟨Vi,Vl,Vo,Vb,Vc,Vj,Vf,Va,Vs,Vt⟩:=V
 obtain ⟨Ui,Ur⟩:=U
 simp only at eL eN eI eR
 subst eL eN eI eR
 obtain ⟨m,hmm⟩ : ∃ m,C.max = m:=⟨_,rfl⟩
 obtain ⟨nl,hnl⟩ : ∃ n,C.latches.length = n:=⟨_,rfl⟩
 obtain ⟨nn,hnn⟩ : ∃ n,C.inputs.length = n:=⟨_,rfl⟩
 obtain ⟨ni,hni⟩ : ∃ n,t.init.length = n:=⟨_,rfl⟩
 obtain ⟨n,hn⟩ : ∃ n,t.rows.length = n:=⟨_,rfl⟩
 obtain ⟨lp,hlp⟩ : ∃ lp,t.loop = lp:=⟨_,rfl⟩
 rw [hmm,hnl,hnn,hni,hn,hlp] at hall hx0
 rw [hmm,hnl,hnn,hni,hn,hlp]
 have HALL:=zH hall
 have HX:=zH hx0
 have HRR:=zH hrr
 have HN:=zH (And.intro hni (And.intro hnl (And.intro hnn (And.intro hn hlp))))
 obtain ⟨r,hr⟩ : ∃ r,fitsB C t = r:=⟨_,rfl⟩
 rw [hr]
 have HR:=zH hr
 rw [hn] at hrm
 unfold maxLen at hrm hnlm hnnm hnim
 rw [hnl] at hnlm
 rw [hnn] at hnnm
 rw [hni] at hnim
 clear h ht hall hx0 hrr hmm hr hnl hnn hni hn hlp
 obtain ⟨c0,c1,c2,c3,c4,c5,c6,c7,c8,c9,c10⟩:=rbox_of (HALL.out _ HX.out).1
 obtain ⟨y0,y1,y2⟩:=trio_of (HALL.out _ HX.out).2.1
 by_cases g1 : ni = nl
 · have q1 : ((ni : Int) != (nl : Int)) = false:=by simp [g1]
   by_cases g2 : 1 ≤ n
   · have q2 : ¬ (n : Int) < 1:=by omega
     by_cases g3 : n ≤ 512
     · have q3 : ¬ (512 : Int) < (n : Int):=by omega
       by_cases g6 : -1 ≤ lp
       · have q6 : ¬ lp < -1:=by omega
         by_cases g7 : lp < (n : Int)
         · have q7 : ¬ (n : Int) ≤ lp:=by omega
           have HR2 : Hid (rowsB C t.rows = r):=zH (by rw [← HR.out]; unfold fitsB; rw [HN.out.1,HN.out.2.1,HN.out.2.2.2.1,HN.out.2.2.2.2]; simp [g1,g2,g3,g6,g7])
           clear HR g1
           go_enter Tryz.func18,Tryz.ntmps18
           go_wp2
           go_loopg [6] n (fun j iv wr => ∃ k : Nat,k ≤ n ∧ iv = .int .i64 k ∧ j = n - k ∧ rowsB C (t.rows.take k) = true ∧ Below ((w.alloc (.cells #[.int .i64 m,.slice AN nn cN,.slice AL nl cL,Vo,Vb,Vc,Vj,Vf,Va,Vs,Vt] 29)).alloc (.cells #[.slice AI ni cI,.slice AR n cR,.int .i64 lp] 33)).heap.size ((w.alloc (.cells #[.int .i64 m,.slice AN nn cN,.slice AL nl cL,Vo,Vb,Vc,Vj,Vf,Va,Vs,Vt] 29)).alloc (.cells #[.slice AI ni cI,.slice AR n cR,.int .i64 lp] 33)) wr)
           case atStart => exact ⟨0,Nat.zero_le _,rfl,rfl,rfl,HX.out⟩
           case round =>
            obtain ⟨k,hk,rfl,hgk,hal,hbw⟩:=hrel
            subst hgk
            clear HX c0 c1 c2 c3 c4 c5 c6 c7 c8 c9 c10 y0 y1 y2
            have HX:=zH hbw
            have HAL:=zH hal
            clear hbw hal
            obtain ⟨c0,c1,c2,c3,c4,c5,c6,c7,c8,c9,c10⟩:=rbox_of (HALL.out _ HX.out).1
            obtain ⟨y0,y1,y2⟩:=trio_of (HALL.out _ HX.out).2.1
            by_cases hlt : k < n
            · obtain ⟨row,hz⟩ : ∃ row,t.rows[k]? = some row:=⟨_,List.getElem?_eq_getElem (by rw [HN.out.2.2.2.1]; exact hlt)⟩
              obtain ⟨b,off,u,e,hb,hu,hru⟩:=HRR.out k row hz
              subst e
              have hcu:=((HALL.out _ HX.out).2.2.cell (p:=⟨b,off + k,none⟩) hb).trans hu
              obtain ⟨uA,uc,hue,hum⟩:=len_form hru
              subst hue
              unfold maxLen at hum
              have HZ:=zH hz
              obtain ⟨un,hun⟩ : ∃ un,row.length = un:=⟨_,rfl⟩
              rw [hun] at hcu hum
              have HUN:=zH hun
              have hk0 : (0 : Int) ≤ (k : Int):=by omega
              have hk1 : (k : Int) < (n : Int):=by omega
              clear hu hru hz hun
              by_cases hrl : un = nn
              · have q8 : ((un : Int) != (nn : Int)) = false:=by simp [hrl]
                have HA2 : Hid (rowsB C (t.rows.take (k + 1)) = true):=zH (by
                 have:=HAL.out
                 unfold rowsB at this ⊢
                 rw [List.take_add_one,HZ.out,List.all_append,this,HN.out.2.2.1]; simp [HUN.out,hrl])
                clear hrl
                go_wp2
                go_quiet (fail)
                go_wp2
                go_roundg (n - (k + 1))
                case measure => omega
                case rel => first | exact ⟨k + 1,by omega,by go_num,rfl,HA2.out,HX.out⟩ | exact ⟨k + 1,by omega,by go_num,rfl,HA2.out,below_drewN HX.out _⟩ | ((repeat apply Exists.intro); exact ⟨⟨k + 1,by omega,by go_num,rfl,HA2.out,below_drewN HX.out _⟩,rfl⟩)
              · have q8 : ((un : Int) != (nn : Int)) = true:=by simp; omega
                have HF2 : Hid (false = r):=zH (by
                 have : rowsB C t.rows = false:=by unfold rowsB; rw [List.all_eq_false]; exact ⟨row,List.mem_of_getElem? HZ.out,by rw [HUN.out,HN.out.2.2.1]; simpa using hrl⟩
                 rw [← HR2.out,this])
                go_wp2
                go_quiet (fail)
                go_wp2
                go_ret
                exact ⟨ret_bool HF2.out,(HALL.out _ (below_drewN HX.out _)).2.2⟩
            · have HR4 : Hid (true = r):=zH (by
               have:=HAL.out
               rw [List.take_of_length_le (by rw [HN.out.2.2.2.1]; omega)] at this
               rw [← HR2.out,this])
              go_wp2
              go_ret
              exact ⟨ret_bool HR4.out,(HALL.out _ HX.out).2.2⟩
         · have q7 : (n : Int) ≤ lp:=by omega
           have HR2 : Hid (false = r):=zH (by rw [← HR.out]; unfold fitsB; rw [HN.out.1,HN.out.2.1,HN.out.2.2.2.1,HN.out.2.2.2.2]; simp [g7])
           clear HR g1
           go_enter Tryz.func18,Tryz.ntmps18
           go_wp2
           go_ret
           exact ⟨ret_bool HR2.out,(HALL.out _ HX.out).2.2⟩
       · have q6 : lp < -1:=by omega
         have HR2 : Hid (false = r):=zH (by rw [← HR.out]; unfold fitsB; rw [HN.out.1,HN.out.2.1,HN.out.2.2.2.1,HN.out.2.2.2.2]; simp [g6])
         clear HR g1
         go_enter Tryz.func18,Tryz.ntmps18
         go_wp2
         go_ret
         exact ⟨ret_bool HR2.out,(HALL.out _ HX.out).2.2⟩
     · have q3 : (512 : Int) < (n : Int):=by omega
       have HR2 : Hid (false = r):=zH (by rw [← HR.out]; unfold fitsB; rw [HN.out.1,HN.out.2.1,HN.out.2.2.2.1,HN.out.2.2.2.2]; simp [g3])
       clear HR g1
       go_enter Tryz.func18,Tryz.ntmps18
       go_wp2
       go_ret
       exact ⟨ret_bool HR2.out,(HALL.out _ HX.out).2.2⟩
   · have q2 : (n : Int) < 1:=by omega
     have HR2 : Hid (false = r):=zH (by rw [← HR.out]; unfold fitsB; rw [HN.out.1,HN.out.2.1,HN.out.2.2.2.1,HN.out.2.2.2.2]; simp [g2])
     clear HR g1
     go_enter Tryz.func18,Tryz.ntmps18
     go_wp2
     go_ret
     exact ⟨ret_bool HR2.out,(HALL.out _ HX.out).2.2⟩
 · have q1 : ((ni : Int) != (nl : Int)) = true:=by simp; omega
   have HR2 : Hid (false = r):=zH (by rw [← HR.out]; unfold fitsB; rw [HN.out.1,HN.out.2.1,HN.out.2.2.2.1,HN.out.2.2.2.2]; simp [g1])
   clear HR g1
   go_enter Tryz.func18,Tryz.ntmps18
   go_wp2
   go_ret
   exact ⟨ret_bool HR2.out,(HALL.out _ HX.out).2.2⟩

theorem lenM (x : MV) : (encM x).length = 4 := rfl
theorem reads_fourM (w : World) (a b c d : Value) (t : TypeId) : Reads (w.alloc (.cells #[a,b,c,d] t)) (w.heap.size + 1) 4 (some ⟨w.heap.size,0,none⟩) 1 [a,b,c,d] := by
 refine ⟨rfl,fun _ => ⟨_,rfl,by simp,fun j u hu => ?_⟩⟩
 rw [add_none,Nat.zero_add,(Blk.new w t #[a,b,c,d]).cell]
 simpa using hu
structure DMs (w : World) (B : Nat) (v : Value) (xs : List MV) (ms : List Mom) : Prop where
 len : xs.length = ms.length
 own : w.ownsRow B 62 4 v ms.length (xs.flatMap encM)
 at_ : ∀ (i : Nat) (x : MV) (m : Mom),xs[i]? = some x → ms[i]? = some m → MomR w B x m
theorem DMs.below {w w' : World} {B : Nat} {v : Value} {xs : List MV} {ms : List Mom} (h : DMs w B v xs ms) (hb : Below w.heap.size w w') : DMs w' B v xs ms :=
 ⟨h.len,own_below h.own hb,fun i x m hx hm => (h.at_ i x m hx hm).keep (fun g hg => hb.block g ((h.at_ i x m hx hm).lt hg).2)⟩
theorem MomR.le {w : World} {B B' : Nat} {x : MV} {m : Mom} (h : MomR w B x m) (hb : B' ≤ B) : MomR w B' x m := ⟨own_le h.s hb,h.h,own_le h.b hb,own_le h.f hb⟩
theorem DMs.snoc {w w3 : World} {B : Nat} {v v3 : Value} {xs : List MV} {ms : List Mom} {x : MV} {m : Mom} (h : DMs w B v xs ms) (hx : MomR w B x m) (o : Obj)
 (ho : w3.ownsRow B 62 4 v3 (ms.length + 1) (xs.flatMap encM ++ encM x)) (hg : (w.alloc o).grownBy w3 v.ownBlock) : DMs w3 B v3 (xs ++ [x]) (ms ++ [m]):=by
 have key : ∀ (y : MV) (n : Mom),MomR w B y n → MomR w3 B y n:=fun y n hy => by
  have hown:=h.own.alloc o
  exact ⟨own_other (hy.s.alloc o) hown (by decide) hg,hy.h,own_other (hy.b.alloc o) hown (by decide) hg,own_other (hy.f.alloc o) hown (by decide) hg⟩
 refine ⟨by simp [h.len],by simpa [List.flatMap_append] using ho,fun i y n hy hn => ?_⟩
 by_cases hi : i < xs.length
 · rw [List.getElem?_append_left hi] at hy
   rw [List.getElem?_append_left (by rw [← h.len]; exact hi)] at hn
   exact key y n (h.at_ i y n hy hn)
 · rw [List.getElem?_append_right (by omega)] at hy
   rw [List.getElem?_append_right (by rw [← h.len]; omega),← h.len] at hn
   have : i - xs.length = 0:=by have:=(List.getElem?_eq_some_iff.1 hy).1; simp at this; exact this
   rw [this] at hy hn
   simp at hy hn
   subst hy hn
   exact key _ _ hx
theorem DMs.le {w : World} {B B' : Nat} {v : Value} {xs : List MV} {ms : List Mom} (h : DMs w B v xs ms) (hb : B' ≤ B) : DMs w B' v xs ms := ⟨h.len,own_le h.own hb,fun i x m hx hm => (h.at_ i x m hx hm).le hb⟩
theorem DMs.nil (w : World) (B : Nat) : DMs w B (.slice none 0 0) [] [] := ⟨rfl,World.ownsRow_nil _ _ _ _,fun i x m hx => by simp at hx⟩
theorem DMs.row {w : World} {B : Nat} {v : Value} {xs : List MV} {ms : List Mom} (h : DMs w B v xs ms) : MomRow w v ms := by
 have ho:=h.own
 rw [← h.len] at ho
 obtain ⟨A,c,e,h1,h2,h3⟩:=own_rowe lenM ho
 refine ⟨A,c,by rw [e,h.len],by rw [← h.len]; exact h1,h2,fun i m hm => ?_⟩
 have hil : i < xs.length:=by rw [h.len]; exact (List.getElem?_eq_some_iff.1 hm).1
 have hx:=List.getElem?_eq_getElem hil
 generalize xs[i] = x at hx
 have hr:=h.at_ i x m hx hm
 obtain ⟨b,off,eA,hb,hc⟩:=h3 i x hx
 have e0:=hc 0 _ rfl
 have e1:=hc 1 _ rfl
 have e2:=hc 2 _ rfl
 have e3:=hc 3 _ rfl
 simp only [Nat.add_zero,← Nat.add_assoc] at e0 e1 e2 e3
 exact ⟨b,off,x,eA,e0,e1,e2,e3,hb,own_rowe lenO (by rw [flat_bools]; exact hr.s),hr.h,own_rowe lenI (by rw [flat_ints]; exact hr.b),own_rowe lenQ hr.f⟩

set_option maxHeartbeats 8000000 in
set_option maxRecDepth 100000 in
theorem rRun0_any (w : World) (V : CV) (C : Circ) (U : TV) (t : Tr) (O : List Int) (gv : Value) (h : C.In w V) (hrt : Right C) (hJ : sumL C.justice ≤ 16384) (ht : t.In w U) (hg : RowE 1 encI w gv O) (hO : IsOrd C O) (hf : Fits C t) :
 Calls Tryz.prog 47 #[V.val C.max,gv,U.val t.loop] w fun e w' => Below w.heap.size w w' ∧ ∃ A c u,e = .returned (.tuple #[.slice A t.rows.length c,u]) ∧ ∃ xs,DMs w' w.heap.size (.slice A t.rows.length c) xs (momsG C O t.init t.rows):=by
 have hall : ∀ wz,Below ((w.alloc (.cells (V.cells C.max) 29)).alloc (.cells (U.cells t.loop) 33)).heap.size ((w.alloc (.cells (V.cells C.max) 29)).alloc (.cells (U.cells t.loop) 33)) wz →
  Blk wz w.heap.size 29 (V.cells C.max) ∧ Blk wz (w.heap.size + 1) 33 (U.cells t.loop) ∧ Below w.heap.size w wz:=fun wz hb => by
  have h1 : Below w.heap.size w wz:=(((Below.refl w.heap.size w).alloc zN _).alloc (by simp) _).trans (hb.mono (by simp; omega))
  have e1:=((Blk.new w 29 (V.cells C.max)).alloc (.cells (U.cells t.loop) 33)).below hb (by simp; omega)
  have e2:=(Blk.new (w.alloc (.cells (V.cells C.max) 29)) 33 (U.cells t.loop)).below hb (by simp)
  rw [show (w.alloc (.cells (V.cells C.max) 29)).heap.size = w.heap.size + 1 by simp] at e2
  exact ⟨e1,e2,h1⟩
 have hx0 : Below ((w.alloc (.cells (V.cells C.max) 29)).alloc (.cells (U.cells t.loop) 33)).heap.size ((w.alloc (.cells (V.cells C.max) 29)).alloc (.cells (U.cells t.loop) 33)) ((w.alloc (.cells (V.cells C.max) 29)).alloc (.cells (U.cells t.loop) 33)):=Below.refl _ _
 have hmom:=fun (wx : World) (hb : Below w.heap.size w wx) (sv v : Value) (st T : List Bool) (hs : RowE 1 encO wx sv st) (hsl : st.length ≤ 100000) (hv : RowE 1 encO wx v T) (hT : T.length = C.max.toNat + 1) => rMoment_any wx V C sv v st T (h.below hb) hrt hJ hs hsl hv hT
 have hnx:=fun (wx : World) (hb : Below w.heap.size w wx) (v : Value) (T : List Bool) (hv : RowE 1 encO wx v T) (hT : T.length = C.max.toNat + 1) => rNext0_any wx V C v T (h.below hb) hrt hv hT
 have hva:=fun (wx : World) (hb : Below w.heap.size w wx) (sv rv : Value) (st row : List Bool) (hs : RowE 1 encO wx sv st) (hr : RowE 1 encO wx rv row) (h1 : st.length = C.latches.length) (h2 : row.length = C.inputs.length) => rValues0_any wx V C gv sv rv O st row (h.below hb) (hg.below hb) hs hr hrt h1 h2 hO.inR (by rw [hO.l]; exact hrt.na)
 have hm0:=hrt.m0
 have hm1:=hrt.m1
 have hnlx:=hrt.nl
 obtain ⟨gA,gn,gc,hge⟩ : ∃ A n c,gv = .slice A n c:=by obtain ⟨A,c,e,_⟩:=hg; exact ⟨A,_,c,e⟩
 subst hge
 obtain ⟨iA,ic,hie,hir⟩:=ht.i.reads lenO (by omega)
 obtain ⟨i0,hi0,hz0,hz1,hz2⟩:=info_of2 infoO2
 obtain ⟨iM,hiM,hMz0,hMz1,hMz2⟩:=info_of2 infoMM
 have HI0:=zH (And.intro hi0 (And.intro hz0 (And.intro hz1 hz2)))
 have HIM:=zH (And.intro hiM (And.intro hMz0 (And.intro hMz1 hMz2)))
 have HF:=zH hf
 obtain ⟨AL,cL,eL,hnlm⟩:=len_form h.l
 obtain ⟨AN,cN,eN,hnnm⟩:=len_form h.i
 obtain ⟨AI,cI,eI,hnim⟩:=len_form ht.i
 obtain ⟨AR,cR,eR,hrm,hrr⟩:=ht.r.at_
 obtain ⟨Vi,Vl,Vo,Vb,Vc,Vj,Vf,Va,Vs,Vt⟩:=V
 obtain ⟨Ui,Ur⟩:=U
 simp only at eL eN eI eR
 subst eL eN eI eR
 obtain ⟨m,hmm⟩ : ∃ m,C.max = m:=⟨_,rfl⟩
 obtain ⟨nl,hnl⟩ : ∃ n,C.latches.length = n:=⟨_,rfl⟩
 obtain ⟨nn,hnn⟩ : ∃ n,C.inputs.length = n:=⟨_,rfl⟩
 obtain ⟨ni,hni⟩ : ∃ n,t.init.length = n:=⟨_,rfl⟩
 obtain ⟨n,hn⟩ : ∃ n,t.rows.length = n:=⟨_,rfl⟩
 obtain ⟨lp,hlp⟩ : ∃ lp,t.loop = lp:=⟨_,rfl⟩
 injection hie with hie1 hie2 hie3
 subst hie1 hie3
 have hnb:=hf.n2
 rw [hn] at hnb
 rw [hnl] at hnlx
 rw [hni] at hir
 have hnil : ni ≤ 100000:=by have:=hf.i; omega
 rw [hmm,hnl,hnn,hni,hn,hlp] at hall hx0
 rw [hmm] at hmom hnx hva
 rw [hmm] at hm0 hm1
 rw [hnl,hnn] at hmom hnx hva
 rw [hmm,hnl,hnn,hni,hn,hlp]
 have HALL:=zH hall
 have HX:=zH hx0
 have HRR:=zH hrr
 have HIR:=zH hir
 have HMOM:=zH hmom
 have HNXT:=zH hnx
 have HVA:=zH hva
 have HN:=zH (And.intro hni (And.intro hnl (And.intro hnn (And.intro hn (And.intro hlp hmm)))))
 clear h hrt hJ ht hg hO hf hall hx0 hrr hir hmom hnx hva hmm hnl hnn hni hn hlp hrm hi0 hz0 hz1 hz2 hiM hMz0 hMz1 hMz2 hie2 hnlm hnnm hnim
 obtain ⟨c0,c1,c2,c3,c4,c5,c6,c7,c8,c9,c10⟩:=rbox_of (HALL.out _ HX.out).1
 obtain ⟨y0,y1,y2⟩:=trio_of (HALL.out _ HX.out).2.1
 go_enter Tryz.func47,Tryz.ntmps47
 go_upto_region 2 with (at_builtin; go_loud (refine wpList_append_any _ rfl (.tmp 12) (.tmp 14) _ rfl ((w.alloc (.cells #[.int .i64 m,.slice AN nn cN,.slice AL nl cL,Vo,Vb,Vc,Vj,Vf,Va,Vs,Vt] 29)).alloc (.cells #[.slice AI ni cI,.slice AR n cR,.int .i64 lp] 33)).heap.size 4 i0 _ 1 1 Tryz.underlying30 HI0.out.1 HI0.out.2.1 HI0.out.2.2.1 HI0.out.2.2.2 rfl (by omega) (.slice (some ⟨w.heap.size + 1 + 1,0,none⟩) 0 0) 0 [] rfl (by have:=World.ownsRow_made (base:=((w.alloc (.cells #[.int .i64 m,.slice AN nn cN,.slice AL nl cL,Vo,Vb,Vc,Vj,Vf,Va,Vs,Vt] 29)).alloc (.cells #[.slice AI ni cI,.slice AR n cR,.int .i64 lp] 33)).heap.size) (e:=4) (size:=1) ((w.alloc (.cells #[.int .i64 m,.slice AN nn cN,.slice AL nl cL,Vo,Vb,Vc,Vj,Vf,Va,Vs,Vt] 29)).alloc (.cells #[.slice AI ni cI,.slice AR n cR,.int .i64 lp] 33)) #[] 0 zN (by simp [maxLen]) rfl; simpa using this) w.heap.size AI ni cI (t.init.flatMap encO) rfl (HIR.out.below ((HALL.out _ HX.out).2.2.alloc (by simp; omega) _)) (flat_one oneO t.init) (by simp only [maxLen]; omega) (by omega) (by simp) ?_; intro v1 w1 hown1 hg1 hat1; have HXN:=zH ((HX.out.alloc zN (.cells #[] 4)).grown hg1 (by simp) (by intro k hk; simp [Value.ownBlock] at hk; simp; omega)); have HS1 : Hid (RowE 1 encO w1 v1 t.init):=zH (by have h9:=own_rowe (zs:=t.init) lenO (by rw [HN.out.1]; simpa using hown1); exact h9); obtain ⟨A1,k1,he1⟩:=own_slice1 hown1; subst he1; clear hown1 hg1 hat1 HX c0 c1 c2 c3 c4 c5 c6 c7 c8 c9 c10 y0 y1 y2; have HX:=HXN; clear HXN; obtain ⟨c0,c1,c2,c3,c4,c5,c6,c7,c8,c9,c10⟩:=rbox_of (HALL.out _ HX.out).1; obtain ⟨y0,y1,y2⟩:=trio_of (HALL.out _ HX.out).2.1))
 have hW0s : w.heap.size ≤ ((w.alloc (.cells #[.int .i64 m,.slice AN nn cN,.slice AL nl cL,Vo,Vb,Vc,Vj,Vf,Va,Vs,Vt] 29)).alloc (.cells #[.slice AI ni cI,.slice AR n cR,.int .i64 lp] 33)).heap.size ∧ w.heap.size + 1 < ((w.alloc (.cells #[.int .i64 m,.slice AN nn cN,.slice AL nl cL,Vo,Vb,Vc,Vj,Vf,Va,Vs,Vt] 29)).alloc (.cells #[.slice AI ni cI,.slice AR n cR,.int .i64 lp] 33)).heap.size:=by simp; omega
 generalize ((w.alloc (.cells #[.int .i64 m,.slice AN nn cN,.slice AL nl cL,Vo,Vb,Vc,Vj,Vf,Va,Vs,Vt] 29)).alloc (.cells #[.slice AI ni cI,.slice AR n cR,.int .i64 lp] 33)) = W0 at HALL HX hW0s
 have HWS:=zH hW0s
 clear hW0s
 have HRR2 : Hid (t.init.length = nl):=zH (HF.out.i.trans HN.out.2.1)
 go_wp2
 go_loopg [8,9,10] n (fun j sv ov iv wr => ∃ (k : Nat) (xs : List MV),k ≤ n ∧ iv = .int .i64 k ∧ j = n - k ∧ RowE 1 encO wr sv (runS C O t.init (t.rows.take k)) ∧ DMs wr W0.heap.size ov xs (momsG C O t.init (t.rows.take k)) ∧ Below W0.heap.size W0 wr)
 case atStart => exact ⟨0,[],Nat.zero_le _,rfl,rfl,by have h9:=HS1.out; simpa [runS] using h9,⟨rfl,World.ownsRow_nil _ _ _ _,fun i x m hx => by simp at hx⟩,HX.out⟩
 case round =>
  obtain ⟨k,xs,hk,rfl,hgk,hsr,hdm,hbw⟩:=hrel
  subst hgk
  clear HX c0 c1 c2 c3 c4 c5 c6 c7 c8 c9 c10 y0 y1 y2
  have HX:=zH hbw
  have HS:=zH hsr
  have HD:=zH hdm
  clear hbw
  obtain ⟨c0,c1,c2,c3,c4,c5,c6,c7,c8,c9,c10⟩:=rbox_of (HALL.out _ HX.out).1
  obtain ⟨y0,y1,y2⟩:=trio_of (HALL.out _ HX.out).2.1
  obtain ⟨sA,sn,sc,hse⟩:=slO_form hsr
  subst hse
  obtain ⟨oA,oc,hoe⟩:=own_slice1 hdm.own
  subst hoe
  obtain ⟨st,hst⟩ : ∃ st,runS C O t.init (t.rows.take k) = st:=⟨_,rfl⟩
  obtain ⟨ms,hms⟩ : ∃ ms,momsG C O t.init (t.rows.take k) = ms:=⟨_,rfl⟩
  have hsl : st.length = nl:=by rw [← hst,runS_len C O HF.out.i,HN.out.2.1]
  have hml : ms.length = k:=by rw [← hms,momsG_len,List.length_take,HN.out.2.2.2.1]; omega
  rw [hst] at HS
  rw [hms,hml] at HD
  rw [hms,hml]
  have HSL:=zH hsl
  have HML:=zH hml
  have HSM:=zH (And.intro hst hms)
  clear hsr hdm hsl hml hst hms
  by_cases hlt : k < n
  · obtain ⟨row,hz⟩ : ∃ row,t.rows[k]? = some row:=⟨_,List.getElem?_eq_getElem (by rw [HN.out.2.2.2.1]; exact hlt)⟩
    obtain ⟨rb,ro,u,e,hrb,hu,hru⟩:=HRR.out k row hz
    subst e
    have hrl : row.length = nn:=(HF.out.r row (List.mem_of_getElem? hz)).trans HN.out.2.2.1
    obtain ⟨uA,un,uc,hue⟩:=slO_form hru
    subst hue
    have HRU:=zH hru
    have HZ:=zH hz
    have HRL:=zH hrl
    have HSV : Hid (∀ wz,Below wr.heap.size wr wz → wz.cell? ⟨w.heap.size,0,none⟩ = some (.int .i64 m) ∧ wz.cell? ⟨w.heap.size,1,none⟩ = some (.slice AN nn cN) ∧ wz.cell? ⟨w.heap.size,2,none⟩ = some (.slice AL nl cL) ∧ wz.cell? ⟨w.heap.size,3,none⟩ = some (Vo) ∧ wz.cell? ⟨w.heap.size,4,none⟩ = some (Vb) ∧ wz.cell? ⟨w.heap.size,5,none⟩ = some (Vc) ∧ wz.cell? ⟨w.heap.size,6,none⟩ = some (Vj) ∧ wz.cell? ⟨w.heap.size,7,none⟩ = some (Vf) ∧ wz.cell? ⟨w.heap.size,8,none⟩ = some (Va) ∧ wz.cell? ⟨w.heap.size,9,none⟩ = some (Vs) ∧ wz.cell? ⟨w.heap.size,10,none⟩ = some (Vt) ∧ wz.cell? ⟨w.heap.size + 1,1,none⟩ = some (.slice (some ⟨rb,ro,none⟩) n cR) ∧ wz.cell? ⟨rb,ro + k,none⟩ = some (.slice uA un uc)):=zH (fun wz hb => by
     have h1:=bt HX.out zN hb
     obtain ⟨e0,e1,e2,e3,e4,e5,e6,e7,e8,e9,e10⟩:=rbox_of (HALL.out _ h1).1
     obtain ⟨_,f1,_⟩:=trio_of (HALL.out _ h1).2.1
     exact ⟨e0,e1,e2,e3,e4,e5,e6,e7,e8,e9,e10,f1,((HALL.out _ h1).2.2.cell (p:=⟨rb,ro + k,none⟩) hrb).trans hu⟩)
    have hk0 : (0 : Int) ≤ (k : Int):=by omega
    have hk1 : (k : Int) < (n : Int):=by omega
    have htl : (valF C O st row).length = m.toNat + 1:=by rw [valF_len,HN.out.2.2.2.2.2]
    obtain ⟨TT,hTT⟩ : ∃ TT,valF C O st row = TT:=⟨_,rfl⟩
    have HTT:=zH hTT
    rw [hTT] at htl
    have HTL:=zH htl
    clear hz hu hru hrl hrb htl hTT
    go_wp2
    go_region_held3 (fun w' => w'.cell? ⟨w.heap.size,0,none⟩ = some (.int .i64 m) ∧ w'.cell? ⟨w.heap.size,1,none⟩ = some (.slice AN nn cN) ∧ w'.cell? ⟨w.heap.size,2,none⟩ = some (.slice AL nl cL) ∧ w'.cell? ⟨w.heap.size,3,none⟩ = some (Vo) ∧ w'.cell? ⟨w.heap.size,4,none⟩ = some (Vb) ∧ w'.cell? ⟨w.heap.size,5,none⟩ = some (Vc) ∧ w'.cell? ⟨w.heap.size,6,none⟩ = some (Vj) ∧ w'.cell? ⟨w.heap.size,7,none⟩ = some (Vf) ∧ w'.cell? ⟨w.heap.size,8,none⟩ = some (Va) ∧ w'.cell? ⟨w.heap.size,9,none⟩ = some (Vs) ∧ w'.cell? ⟨w.heap.size,10,none⟩ = some (Vt) ∧ w'.cell? ⟨w.heap.size + 1,1,none⟩ = some (.slice (some ⟨rb,ro,none⟩) n cR) ∧ w'.cell? ⟨rb,ro + k,none⟩ = some (.slice uA un uc)) (first | exact HSV.out _ (Below.refl _ _).drew | exact HSV.out _ HY.out | go_keep)
     (first | (go_at_call 73; refine (HVA.out _ ((HALL.out _ (bt HX.out zN (Below.refl _ _).drew)).2.2) _ _ st row (HS.out.below (Below.refl _ _).drew) (HRU.out.below ((HALL.out _ (bt HX.out zN (Below.refl _ _).drew)).2.2)) HSL.out HRL.out).mono ?_; rw [HTT.out]; rintro e w5 ⟨g5,rfl,_,hb,ht5⟩; have HT5:=zH ht5; have HY:=zH (bt (Below.refl wr.heap.size wr).drew zN hb); clear ht5 hb))
    have hX5:=bt HX.out zN HY.out
    have hD5:=HD.out.below HY.out
    have hS5:=HS.out.below HY.out
    clear HX HD HS HSV c0 c1 c2 c3 c4 c5 c6 c7 c8 c9 c10 y0 y1 y2
    have HX:=zH hX5
    have HD:=zH hD5
    have HS:=zH hS5
    clear hX5 hD5 hS5
    obtain ⟨c0,c1,c2,c3,c4,c5,c6,c7,c8,c9,c10⟩:=rbox_of (HALL.out _ HX.out).1
    obtain ⟨y0,y1,y2⟩:=trio_of (HALL.out _ HX.out).2.1
    obtain ⟨mo,hmo⟩ : ∃ mo,momOf C st TT = mo:=⟨_,rfl⟩
    have HTK : Hid (runS C O t.init (t.rows.take (k + 1)) = nextF C TT ∧ momsG C O t.init (t.rows.take (k + 1)) = ms ++ [mo]):=zH (by
     have h9 : t.rows.take (k + 1) = t.rows.take k ++ [row]:=by rw [List.take_add_one,HZ.out]; rfl
     rw [h9,runS_snoc,momsG_snoc,HSM.out.1,HSM.out.2,HTT.out,hmo]
     exact ⟨rfl,rfl⟩)
    have hr5 : RowE 1 encO w5 (.slice (some ⟨g5,0,none⟩) (m.toNat + 1) (m.toNat + 1)) TT:=by have h9:=tabT_row HT5.out (by rw [HTL.out]; unfold maxLen; omega); rwa [HTL.out] at h9
    have hcall:=HMOM.out w5 (HALL.out _ HX.out).2.2 _ _ st TT HS.out (by rw [HSL.out]; omega) hr5 HTL.out
    rw [hmo] at hcall
    have HC:=zH hcall
    have HSLN : Hid (nl ≤ maxLen):=zH (by unfold maxLen; omega)
    clear hcall hr5 hmo
    go_wp2_with (first
     | (go_at_call 74; go_loud (refine HC.out.mono ?_; rintro e w6 ⟨x,rfl,hb,hmr⟩; obtain ⟨x0,x1,x2,x3⟩:=x; obtain ⟨B0,k0',e0⟩:=own_slice1 hmr.s; obtain ⟨B2,k2',e2⟩:=own_slice1 hmr.b; obtain ⟨B3,k3',e3⟩:=own_slice1 hmr.f; simp only at e0 e2 e3; subst e0 e2 e3; have HMR:=zH (hmr.le HX.out.size); have HD6:=zH (HD.out.below hb); have HX6:=zH (bt HX.out zN hb); have HT6 : Hid (Tab w6 g5 TT):=zH (Blk.below HT5.out hb (Blk.lt HT5.out)); clear hb hmr))
     | (at_builtin; go_loud (refine wpList_append_any _ rfl (.tmp 32) (.tmp 37) _ rfl W0.heap.size 62 iM _ 4 80 Tryz.underlying51 HIM.out.1 HIM.out.2.1 HIM.out.2.2.1 HIM.out.2.2.2 rfl (by omega) (.slice oA k oc) k (xs.flatMap encM) rfl (by have h9:=HD6.out.own; rw [HML.out] at h9; exact h9.alloc _) (w6.heap.size + 1) (some ⟨w6.heap.size,0,none⟩) 1 1 [.slice B0 mo.st.length k0',.bool x1,.slice B2 mo.bads.length k2',.slice B3 mo.fair.length k3'] rfl (reads_fourM _ _ _ _ _ _) (by simp [Value.oneCell']) (by simp only [maxLen]; omega) (by omega) (by have:=HX6.out.size; first | (simp; done) | (simp; omega)) ?_; intro v3 w7 hown3 hg3 hat3; obtain ⟨A7,k7,e7⟩:=own_slice1 hown3; subst e7; have HD7:=zH (HD6.out.snoc HMR.out _ (by rw [HML.out]; exact hown3) hg3); have HT7 : Hid (Tab w7 g5 TT):=zH (Blk.grown (Blk.alloc HT6.out _) hg3 (fun e => own_blk_ne HD6.out.own HT6.out (by decide) e.symm)); have HXN:=zH ((HX6.out.alloc HX6.out.size _).grown hg3 (by have:=HX6.out.size; first | (simp; done) | (simp; omega)) (fun g hg => (HD6.out.own.lt g hg).1)); clear HX hown3 hg3 hat3 c0 c1 c2 c3 c4 c5 c6 c7 c8 c9 c10 y0 y1 y2; have HX:=HXN; clear HXN; obtain ⟨c0,c1,c2,c3,c4,c5,c6,c7,c8,c9,c10⟩:=rbox_of (HALL.out _ HX.out).1; obtain ⟨y0,y1,y2⟩:=trio_of (HALL.out _ HX.out).2.1))
     | (go_at_call 75; go_loud (have h9:=tabT_row HT7.out (by rw [HTL.out]; unfold maxLen; omega); rw [HTL.out] at h9; refine (HNXT.out w7 (HALL.out _ HX.out).2.2 _ TT h9 HTL.out).mono ?_; clear h9; rintro e w8 ⟨g8,rfl,_,hb,ht8⟩; have HD8:=zH (HD7.out.below hb); have HX8:=zH (bt HX.out zN hb); have HT8:=zH ht8; clear hb ht8)))
    go_roundg (n - (k + 1))
    case measure => omega
    case rel =>
     refine ⟨k + 1,_,by omega,by go_num,rfl,?_,by rw [HTK.out.2]; exact HD8.out,HX8.out⟩
     rw [HTK.out.1]
     have h9:=tabT_row HT8.out (by rw [nextF_len,HN.out.2.1]; exact HSLN.out)
     rw [nextF_len,HN.out.2.1] at h9
     exact h9
  · have hke : k = n:=by omega
    subst hke
    have HFI : Hid (momsG C O t.init t.rows = ms):=zH (by
     have h9:=HSM.out.2
     rwa [List.take_of_length_le (by rw [HN.out.2.2.2.1]; exact Nat.le_refl _)] at h9)
    go_wp2
    go_ret2
    refine ⟨(HALL.out _ HX.out).2.2,_,_,⟨_,rfl⟩,?_⟩
    rw [HFI.out]
    exact ⟨xs,HD.out.le HWS.out.1⟩

open Go.RowKit

structure CT (W0 wr : World) (g : Nat) (iv ov : Value) (lp : Int) (ini : List Bool) (us : List Value) (rows : List (List Bool)) : Prop where
 below : Below W0.heap.size W0 wr
 lt : W0.heap.size ≤ g
 blk : Blk wr g 33 #[iv,ov,.int .i64 lp]
 i : wr.ownsRow W0.heap.size 4 1 iv ini.length (ini.map Value.bool)
 len : us.length = rows.length
 o : wr.ownsRow W0.heap.size 30 1 ov us.length us
 each : ∀ (i : Nat) (u : Value) (zs : List Bool),us[i]? = some u → rows[i]? = some zs → wr.ownsRow W0.heap.size 4 1 u zs.length (zs.map Value.bool)
theorem CT.new1 {W0 w1 : World} {v : Value} {lp : Int} {ss : List Bool} (hb : Below W0.heap.size W0 w1) (ho : w1.ownsRow W0.heap.size 4 1 v ss.length (ss.map Value.bool)) :
 CT W0 (w1.alloc (.cells #[v,.slice none 0 0,.int .i64 lp] 33)) w1.heap.size v (.slice none 0 0) lp ss [] [] :=
 ⟨hb.alloc hb.size _,hb.size,Blk.new w1 _ _,ho.alloc _,rfl,World.ownsRow_nil _ _ _ _,fun i u zs hu _ => by simp at hu⟩
theorem CT.new2 {W0 w1 : World} {g : Nat} {v : Value} {lp : Int} {ss : List Bool} {x0 x1 x2 : Value} (hb : Below W0.heap.size W0 w1) (hm : Blk w1 g 33 #[x0,x1,x2]) (hg : W0.heap.size ≤ g) (ho : w1.ownsRow W0.heap.size 4 1 v ss.length (ss.map Value.bool)) :
 CT W0 (((w1.setCell ⟨g,0,none⟩ v).setCell ⟨g,1,none⟩ (.slice none 0 0)).setCell ⟨g,2,none⟩ (.int .i64 lp)) g v (.slice none 0 0) lp ss [] []:=by
 have hn:=fun (k : Nat) (hk : v.ownBlock = some k) (e : k = g) => own_blk_ne ho hm (by decide) (by rw [hk,e])
 refine ⟨((hb.setCell (p:=⟨g,0,none⟩) hg _).setCell (p:=⟨g,1,none⟩) hg _).setCell (p:=⟨g,2,none⟩) hg _,hg,by simpa using ((hm.set_ 0 v).set_ 1 (.slice none 0 0)).set_ 2 (.int .i64 lp),?_,rfl,World.ownsRow_nil _ _ _ _,fun i u zs hu _ => by simp at hu⟩
 exact own_setQ (own_setQ (own_setQ ho _ _ hn) _ _ hn) _ _ hn
theorem CT.put {W0 wr w5 w7 : World} {g : Nat} {iv ov u v : Value} {lp : Int} {ini zs : List Bool} {us : List Value} {rows : List (List Bool)} (h : CT W0 wr g iv ov lp ini us rows) (hb : Below wr.heap.size wr w5) (hu : w5.ownsRow wr.heap.size 4 1 u zs.length (zs.map Value.bool))
 (o : Obj) (hv : w7.ownsRow W0.heap.size 30 1 v (us.length + 1) (us ++ [u])) (hg : (w5.alloc o).grownBy w7 ov.ownBlock) :
 Blk w7 g 33 #[iv,ov,.int .i64 lp] ∧ CT W0 (w7.setCell ⟨g,1,none⟩ v) g iv v lp ini (us ++ [u]) (rows ++ [zs]):=by
 have hsz:=h.below.size
 have hb5 : Below W0.heap.size W0 w5:=bt h.below zN hb
 have ho5:=(own_below h.o hb).alloc o
 have hbk5:=h.blk.below hb h.blk.lt
 have hb7 : Below W0.heap.size W0 w7:=(hb5.alloc hb5.size o).grown hg (by have:=hb5.size; simp; omega) (fun k hk => (h.o.lt k hk).1)
 have hbk7 : Blk w7 g 33 #[iv,ov,.int .i64 lp]:=(hbk5.alloc o).grown hg (fun e => own_blk_ne (own_below h.o hb) hbk5 (by decide) e.symm)
 have key : ∀ (x : Value) (ys : List Bool),w5.ownsRow W0.heap.size 4 1 x ys.length (ys.map Value.bool) → (w7.setCell ⟨g,1,none⟩ v).ownsRow W0.heap.size 4 1 x ys.length (ys.map Value.bool):=fun x ys hx => by
  have h7:=own_other (hx.alloc o) ho5 (by decide) hg
  exact own_setQ h7 _ _ (fun k hk e => own_blk_ne h7 hbk7 (by decide) (by rw [hk,e]))
 refine ⟨hbk7,hb7.setCell (by simpa using h.lt) _,h.lt,by simpa using hbk7.set_ 1 v,key _ _ (own_below h.i hb),by simp [h.len],?_,fun i x ys hx hy => ?_⟩
 · have:=own_setQ hv ⟨g,1,none⟩ v (fun k hk e => own_blk_ne hv hbk7 (by decide) (by rw [hk,e]))
   simpa using this
 · by_cases hi : i < us.length
   · rw [List.getElem?_append_left hi] at hx
     rw [List.getElem?_append_left (by rw [← h.len]; exact hi)] at hy
     exact key x ys (own_below (h.each i x ys hx hy) hb)
   · rw [List.getElem?_append_right (by omega)] at hx
     rw [List.getElem?_append_right (by rw [← h.len]; omega),← h.len] at hy
     have : i - us.length = 0:=by have:=(List.getElem?_eq_some_iff.1 hx).1; simp at this; exact this
     rw [this] at hx hy
     simp at hx hy
     subst hx hy
     exact key _ _ (own_le hu (by omega))
structure OwnT (w : World) (B : Nat) (t : Tr) (U : TV) : Prop where
 i : w.ownsRow B 4 1 U.i t.init.length (t.init.map Value.bool)
 ex : ∃ us : List Value,us.length = t.rows.length ∧ w.ownsRow B 30 1 U.r us.length us ∧ ∀ (i : Nat) (u : Value) (zs : List Bool),us[i]? = some u → t.rows[i]? = some zs → w.ownsRow B 4 1 u zs.length (zs.map Value.bool)
theorem OwnT.in_ {w : World} {B : Nat} {t : Tr} {U : TV} (h : OwnT w B t U) : t.In w U := by
 obtain ⟨us,h1,h2,h3⟩:=h.ex
 exact ⟨own_rowe lenO (by rw [flat_bools]; exact h.i),us,own_rowe lenV (by rw [flat_vals]; exact h2),h1,fun i u zs hu hz => own_rowe lenO (by rw [flat_bools]; exact h3 i u zs hu hz)⟩
theorem OwnT.below {w w' : World} {B : Nat} {t : Tr} {U : TV} (h : OwnT w B t U) (hb : Below w.heap.size w w') : OwnT w' B t U := by
 obtain ⟨us,h1,h2,h3⟩:=h.ex
 exact ⟨own_below h.i hb,us,h1,own_below h2 hb,fun i u zs hu hz => own_below (h3 i u zs hu hz) hb⟩
theorem CT.fin {W0 wr : World} {g b1 : Nat} {iv ov : Value} {lp : Int} {us : List Value} {t : Tr} {x0 x1 x2 : Value} (h : CT W0 wr g iv ov lp t.init us t.rows) (hm : Blk wr b1 33 #[x0,x1,x2]) (u0 u1 u2 : Value) :
 OwnT (((wr.setCell ⟨b1,0,none⟩ u0).setCell ⟨b1,1,none⟩ u1).setCell ⟨b1,2,none⟩ u2) W0.heap.size t ⟨iv,ov⟩:=by
 have key : ∀ (size n : Nat) (t : TypeId) (v : Value) (xs : List Value),t ≠ 33 → wr.ownsRow W0.heap.size t size v n xs → (((wr.setCell ⟨b1,0,none⟩ u0).setCell ⟨b1,1,none⟩ u1).setCell ⟨b1,2,none⟩ u2).ownsRow W0.heap.size t size v n xs:=fun size n t v xs hne ho => by
  have hn:=fun (k : Nat) (hk : v.ownBlock = some k) (e : k = b1) => own_blk_ne ho hm hne (by rw [hk,e])
  exact own_setQ (own_setQ (own_setQ ho _ _ hn) _ _ hn) _ _ hn
 exact ⟨key _ _ _ _ _ (by decide) h.i,us,h.len,key _ _ _ _ _ (by decide) h.o,fun i u zs hu hz => key _ _ _ _ _ (by decide) (h.each i u zs hu hz)⟩
theorem infoBB : (Tryz.prog.info? 30).map (fun i => (i.zero,i.size,i.bytes)) = some (some (.slice none 0 0),1,24) := by kernel_rfl

set_option maxHeartbeats 8000000 in
set_option maxRecDepth 100000 in
theorem CopyTrace_any (w : World) (U : TV) (t : Tr) (ht : t.In w U) (hr : t.Reach) :
 Calls Tryz.prog 5 #[U.val t.loop] w fun e w' => ∃ U' : TV,e = .returned (U'.val t.loop) ∧ Below w.heap.size w w' ∧ ∃ B,OwnT w' B t U':=by
 have hall : ∀ wz,Below ((w.alloc (.cells (U.cells t.loop) 33)).alloc (.cells #[.slice none 0 0,.slice none 0 0,.int .i64 0] 33)).heap.size ((w.alloc (.cells (U.cells t.loop) 33)).alloc (.cells #[.slice none 0 0,.slice none 0 0,.int .i64 0] 33)) wz →
  Blk wz w.heap.size 33 (U.cells t.loop) ∧ Blk wz (w.heap.size + 1) 33 #[.slice none 0 0,.slice none 0 0,.int .i64 0] ∧ Below w.heap.size w wz:=fun wz hb => by
  have h1 : Below w.heap.size w wz:=(((Below.refl w.heap.size w).alloc zN _).alloc (by simp) _).trans (hb.mono (by simp; omega))
  have e1:=((Blk.new w 33 (U.cells t.loop)).alloc (.cells #[.slice none 0 0,.slice none 0 0,.int .i64 0] 33)).below hb (by simp; omega)
  have e2:=(Blk.new (w.alloc (.cells (U.cells t.loop) 33)) 33 #[.slice none 0 0,.slice none 0 0,.int .i64 0]).below hb (by simp)
  rw [show (w.alloc (.cells (U.cells t.loop) 33)).heap.size = w.heap.size + 1 by simp] at e2
  exact ⟨e1,e2,h1⟩
 have hx0 : Below ((w.alloc (.cells (U.cells t.loop) 33)).alloc (.cells #[.slice none 0 0,.slice none 0 0,.int .i64 0] 33)).heap.size ((w.alloc (.cells (U.cells t.loop) 33)).alloc (.cells #[.slice none 0 0,.slice none 0 0,.int .i64 0] 33)) ((w.alloc (.cells (U.cells t.loop) 33)).alloc (.cells #[.slice none 0 0,.slice none 0 0,.int .i64 0] 33)):=Below.refl _ _
 obtain ⟨i0,hi0,hz0,hz1,hz2⟩:=info_of2 infoO2
 obtain ⟨iB,hiB,hBz0,hBz1,hBz2⟩:=info_of2 infoBB
 have HI0:=zH (And.intro hi0 (And.intro hz0 (And.intro hz1 hz2)))
 have HIB:=zH (And.intro hiB (And.intro hBz0 (And.intro hBz1 hBz2)))
 obtain ⟨AI,cI,hie,hir⟩:=ht.i.reads lenO (by omega)
 obtain ⟨AR,cR,eR,hrm,hrr⟩:=ht.r.at_
 have hnil:=hr.i
 have hnrl:=hr.r
 have HRS:=zH hr.rs
 obtain ⟨Ui,Ur⟩:=U
 simp only at eR hie
 subst eR hie
 obtain ⟨ni,hni⟩ : ∃ n,t.init.length = n:=⟨_,rfl⟩
 obtain ⟨n,hn⟩ : ∃ n,t.rows.length = n:=⟨_,rfl⟩
 obtain ⟨lp,hlp⟩ : ∃ lp,t.loop = lp:=⟨_,rfl⟩
 rw [hni,hn,hlp] at hall hx0
 rw [hni] at hir hnil
 rw [hn] at hnrl
 rw [hni,hn,hlp]
 have HALL:=zH hall
 have HX:=zH hx0
 have HRR:=zH hrr
 have HIR:=zH hir
 have HN:=zH (And.intro hni (And.intro hn hlp))
 clear ht hr hall hx0 hrr hir hni hn hlp hrm hi0 hz0 hz1 hz2 hiB hBz0 hBz1 hBz2
 go_enter Tryz.func5,Tryz.ntmps5
 go_upto_region 1 with (fail)
 go_cut [3] (fun p wx => ∃ (g : Nat) (iv ov : Value),p = .pointer (some ⟨g,0,none⟩) ∧ CT ((w.alloc (.cells #[.slice AI ni cI,.slice AR n cR,.int .i64 lp] 33)).alloc (.cells #[.slice none 0 0,.slice none 0 0,.int .i64 0] 33)) wx g iv ov lp t.init [] [])
 case first =>
  have hxd : Below ((w.alloc (.cells #[.slice AI ni cI,.slice AR n cR,.int .i64 lp] 33)).alloc (.cells #[.slice none 0 0,.slice none 0 0,.int .i64 0] 33)).heap.size ((w.alloc (.cells #[.slice AI ni cI,.slice AR n cR,.int .i64 lp] 33)).alloc (.cells #[.slice none 0 0,.slice none 0 0,.int .i64 0] 33)) ((w.alloc (.cells #[.slice AI ni cI,.slice AR n cR,.int .i64 lp] 33)).alloc (.cells #[.slice none 0 0,.slice none 0 0,.int .i64 0] 33)).drew:=HX.out.drew
  have HXD:=zH hxd
  have HOE1 : Hid ((((w.alloc (.cells #[.slice AI ni cI,.slice AR n cR,.int .i64 lp] 33)).alloc (.cells #[.slice none 0 0,.slice none 0 0,.int .i64 0] 33)).drew.alloc (.cells #[] 4)).ownsRow ((w.alloc (.cells #[.slice AI ni cI,.slice AR n cR,.int .i64 lp] 33)).alloc (.cells #[.slice none 0 0,.slice none 0 0,.int .i64 0] 33)).heap.size 4 1 (.slice (some ⟨w.heap.size + 1 + 1,0,none⟩) 0 0) 0 []):=zH (by have:=World.ownsRow_made (base:=((w.alloc (.cells #[.slice AI ni cI,.slice AR n cR,.int .i64 lp] 33)).alloc (.cells #[.slice none 0 0,.slice none 0 0,.int .i64 0] 33)).heap.size) (e:=4) (size:=1) ((w.alloc (.cells #[.slice AI ni cI,.slice AR n cR,.int .i64 lp] 33)).alloc (.cells #[.slice none 0 0,.slice none 0 0,.int .i64 0] 33)).drew #[] 0 zN (by simp [maxLen]) rfl; simpa using this)
  have HOE2 : Hid (((((w.alloc (.cells #[.slice AI ni cI,.slice AR n cR,.int .i64 lp] 33)).alloc (.cells #[.slice none 0 0,.slice none 0 0,.int .i64 0] 33)).drew.alloc (.cells #[.slice none 0 0,.slice none 0 0,.int .i64 0] 33)).alloc (.cells #[] 4)).ownsRow ((w.alloc (.cells #[.slice AI ni cI,.slice AR n cR,.int .i64 lp] 33)).alloc (.cells #[.slice none 0 0,.slice none 0 0,.int .i64 0] 33)).heap.size 4 1 (.slice (some ⟨w.heap.size + 1 + 1 + 1,0,none⟩) 0 0) 0 []):=zH (by have:=World.ownsRow_made (base:=((w.alloc (.cells #[.slice AI ni cI,.slice AR n cR,.int .i64 lp] 33)).alloc (.cells #[.slice none 0 0,.slice none 0 0,.int .i64 0] 33)).heap.size) (e:=4) (size:=1) (((w.alloc (.cells #[.slice AI ni cI,.slice AR n cR,.int .i64 lp] 33)).alloc (.cells #[.slice none 0 0,.slice none 0 0,.int .i64 0] 33)).drew.alloc (.cells #[.slice none 0 0,.slice none 0 0,.int .i64 0] 33)) #[] 0 (by simp) (by simp [maxLen]) rfl; simpa using this)
  have HRDS : Hid (∀ wx,Below ((w.alloc (.cells #[.slice AI ni cI,.slice AR n cR,.int .i64 lp] 33)).alloc (.cells #[.slice none 0 0,.slice none 0 0,.int .i64 0] 33)).heap.size ((w.alloc (.cells #[.slice AI ni cI,.slice AR n cR,.int .i64 lp] 33)).alloc (.cells #[.slice none 0 0,.slice none 0 0,.int .i64 0] 33)) wx → Reads wx w.heap.size 1 AI ni (t.init.flatMap encO) ∧ wx.cell? ⟨w.heap.size,0,none⟩ = some (.slice AI ni cI) ∧ wx.cell? ⟨w.heap.size,2,none⟩ = some (.int .i64 lp)):=zH (fun wx hb => ⟨HIR.out.below (HALL.out _ hb).2.2,(HALL.out _ hb).1.cell 0,(HALL.out _ hb).1.cell 2⟩)
  have e0:=(HRDS.out _ HXD.out).2.1
  have e1:=(HRDS.out _ HXD.out).2.2
  have e4:=(HRDS.out _ (HXD.out.alloc zN (.cells #[] 4))).2.1
  have e5:=(HRDS.out _ (HXD.out.alloc zN (.cells #[] 4))).2.2
  have e6:=(HRDS.out _ (HXD.out.alloc zN (.cells #[.slice none 0 0,.slice none 0 0,.int .i64 0] 33))).2.1
  have e7:=(HRDS.out _ (HXD.out.alloc zN (.cells #[.slice none 0 0,.slice none 0 0,.int .i64 0] 33))).2.2
  have e10:=(HRDS.out _ ((HXD.out.alloc zN (.cells #[] 4)).alloc (by simp) (.cells #[.slice none 0 0,.slice none 0 0,.int .i64 0] 33))).2.1
  have e11:=(HRDS.out _ ((HXD.out.alloc zN (.cells #[] 4)).alloc (by simp) (.cells #[.slice none 0 0,.slice none 0 0,.int .i64 0] 33))).2.2
  have e12:=(HRDS.out _ ((HXD.out.alloc zN (.cells #[.slice none 0 0,.slice none 0 0,.int .i64 0] 33)).alloc (by simp) (.cells #[] 4))).2.1
  have e13:=(HRDS.out _ ((HXD.out.alloc zN (.cells #[.slice none 0 0,.slice none 0 0,.int .i64 0] 33)).alloc (by simp) (.cells #[] 4))).2.2
  clear hxd
  go_region_law ((first
   | (refine step_append_any _ rfl (.tmp 5) (.tmp 7) _ rfl ((w.alloc (.cells #[.slice AI ni cI,.slice AR n cR,.int .i64 lp] 33)).alloc (.cells #[.slice none 0 0,.slice none 0 0,.int .i64 0] 33)).heap.size 4 i0 _ 1 1 Tryz.underlying30 HI0.out.1 HI0.out.2.1 HI0.out.2.2.1 HI0.out.2.2.2 rfl (by omega) (.slice (some ⟨w.heap.size + 1 + 1,0,none⟩) 0 0) 0 [] (by simp [Act.eval]) (HOE1.out) w.heap.size AI ni cI (t.init.flatMap encO) (by simp [Act.eval]) ((HRDS.out _ (HXD.out.alloc zN _)).1) (flat_one oneO t.init) (by simp only [maxLen]; omega) (by omega) (by first | (simp; done) | (simp; omega)) ?_; intro v1 w1 hown1 hg1 hat1; have HX1:=zH ((HXD.out.alloc zN (.cells #[] 4)).grown hg1 (by simp) (fun k hk => (HOE1.out.lt k hk).1)); obtain ⟨A1,k1,he1⟩:=own_slice1 hown1; subst he1; have HOS : Hid (w1.ownsRow ((w.alloc (.cells #[.slice AI ni cI,.slice AR n cR,.int .i64 lp] 33)).alloc (.cells #[.slice none 0 0,.slice none 0 0,.int .i64 0] 33)).heap.size 4 1 (.slice A1 ni k1) t.init.length (t.init.map Value.bool)):=zH (by have h9:=hown1; rw [flat_bools] at h9; rw [HN.out.1]; simpa using h9); have e2:=(HRDS.out _ HX1.out).2.1; have e3:=(HRDS.out _ HX1.out).2.2; have e8:=(HRDS.out _ (HX1.out.alloc HX1.out.size (.cells #[.slice none 0 0,.slice none 0 0,.int .i64 0] 33))).2.1; have e9:=(HRDS.out _ (HX1.out.alloc HX1.out.size (.cells #[.slice none 0 0,.slice none 0 0,.int .i64 0] 33))).2.2; clear hown1 hg1 hat1)
   | (refine step_append_any _ rfl (.tmp 5) (.tmp 7) _ rfl ((w.alloc (.cells #[.slice AI ni cI,.slice AR n cR,.int .i64 lp] 33)).alloc (.cells #[.slice none 0 0,.slice none 0 0,.int .i64 0] 33)).heap.size 4 i0 _ 1 1 Tryz.underlying30 HI0.out.1 HI0.out.2.1 HI0.out.2.2.1 HI0.out.2.2.2 rfl (by omega) (.slice (some ⟨w.heap.size + 1 + 1,0,none⟩) 0 0) 0 [] (by simp [Act.eval]) (HOE1.out.alloc _) w.heap.size AI ni cI (t.init.flatMap encO) (by simp [Act.eval]) ((HRDS.out _ ((HXD.out.alloc zN _).alloc (by simp) _)).1) (flat_one oneO t.init) (by simp only [maxLen]; omega) (by omega) (by first | (simp; done) | (simp; omega)) ?_; intro v1 w1 hown1 hg1 hat1; have hmb : Blk w1 (w.heap.size + 1 + 1 + 1) 33 #[.slice none 0 0,.slice none 0 0,.int .i64 0]:=(by have h9:=(Blk.new (((w.alloc (.cells #[.slice AI ni cI,.slice AR n cR,.int .i64 lp] 33)).alloc (.cells #[.slice none 0 0,.slice none 0 0,.int .i64 0] 33)).drew.alloc (.cells #[] 4)) 33 #[.slice none 0 0,.slice none 0 0,.int .i64 0]).grown hg1 (by simp [Value.ownBlock]); simpa using h9); have HMB:=zH hmb; have HML : Hid (((w.alloc (.cells #[.slice AI ni cI,.slice AR n cR,.int .i64 lp] 33)).alloc (.cells #[.slice none 0 0,.slice none 0 0,.int .i64 0] 33)).heap.size ≤ w.heap.size + 1 + 1 + 1):=zH (by first | (simp; done) | (simp; omega)); have k0:=hmb.cell 0; have k1':=hmb.cell 1; have k2:=hmb.cell 2; have k4:=hmb.frozen 0; have k5:=hmb.frozen 1; have k6:=hmb.frozen 2; simp only [List.getElem?_toArray,List.getElem?_cons_zero,List.getElem?_cons_succ] at k0 k1' k2; clear hmb; have HX1:=zH (((HXD.out.alloc zN (.cells #[] 4)).alloc (by simp) (.cells #[.slice none 0 0,.slice none 0 0,.int .i64 0] 33)).grown hg1 (by first | (simp; done) | (simp; omega)) (fun k hk => ((HOE1.out.alloc (.cells #[.slice none 0 0,.slice none 0 0,.int .i64 0] 33)).lt k hk).1)); obtain ⟨A1,k1,he1⟩:=own_slice1 hown1; subst he1; have HOS : Hid (w1.ownsRow ((w.alloc (.cells #[.slice AI ni cI,.slice AR n cR,.int .i64 lp] 33)).alloc (.cells #[.slice none 0 0,.slice none 0 0,.int .i64 0] 33)).heap.size 4 1 (.slice A1 ni k1) t.init.length (t.init.map Value.bool)):=zH (by have h9:=hown1; rw [flat_bools] at h9; rw [HN.out.1]; simpa using h9); have e2:=(HRDS.out _ HX1.out).2.1; have e3:=(HRDS.out _ HX1.out).2.2; have e8:=(HRDS.out _ (HX1.out.alloc HX1.out.size (.cells #[.slice none 0 0,.slice none 0 0,.int .i64 0] 33))).2.1; have e9:=(HRDS.out _ (HX1.out.alloc HX1.out.size (.cells #[.slice none 0 0,.slice none 0 0,.int .i64 0] 33))).2.2; clear hown1 hg1 hat1)
   | (refine step_append_any _ rfl (.tmp 5) (.tmp 7) _ rfl ((w.alloc (.cells #[.slice AI ni cI,.slice AR n cR,.int .i64 lp] 33)).alloc (.cells #[.slice none 0 0,.slice none 0 0,.int .i64 0] 33)).heap.size 4 i0 _ 1 1 Tryz.underlying30 HI0.out.1 HI0.out.2.1 HI0.out.2.2.1 HI0.out.2.2.2 rfl (by omega) (.slice (some ⟨w.heap.size + 1 + 1 + 1,0,none⟩) 0 0) 0 [] (by simp [Act.eval]) (HOE2.out) w.heap.size AI ni cI (t.init.flatMap encO) (by simp [Act.eval]) ((HRDS.out _ ((HXD.out.alloc zN _).alloc (by simp) _)).1) (flat_one oneO t.init) (by simp only [maxLen]; omega) (by omega) (by first | (simp; done) | (simp; omega)) ?_; intro v1 w1 hown1 hg1 hat1; have hmb : Blk w1 (w.heap.size + 1 + 1) 33 #[.slice none 0 0,.slice none 0 0,.int .i64 0]:=(by have h9:=((Blk.new ((w.alloc (.cells #[.slice AI ni cI,.slice AR n cR,.int .i64 lp] 33)).alloc (.cells #[.slice none 0 0,.slice none 0 0,.int .i64 0] 33)).drew 33 #[.slice none 0 0,.slice none 0 0,.int .i64 0]).alloc (.cells #[] 4)).grown hg1 (by simp [Value.ownBlock]); simpa using h9); have HMB:=zH hmb; have HML : Hid (((w.alloc (.cells #[.slice AI ni cI,.slice AR n cR,.int .i64 lp] 33)).alloc (.cells #[.slice none 0 0,.slice none 0 0,.int .i64 0] 33)).heap.size ≤ w.heap.size + 1 + 1):=zH (by first | (simp; done) | (simp; omega)); have k0:=hmb.cell 0; have k1':=hmb.cell 1; have k2:=hmb.cell 2; have k4:=hmb.frozen 0; have k5:=hmb.frozen 1; have k6:=hmb.frozen 2; simp only [List.getElem?_toArray,List.getElem?_cons_zero,List.getElem?_cons_succ] at k0 k1' k2; clear hmb; have HX1:=zH (((HXD.out.alloc zN (.cells #[.slice none 0 0,.slice none 0 0,.int .i64 0] 33)).alloc (by simp) (.cells #[] 4)).grown hg1 (by first | (simp; done) | (simp; omega)) (fun k hk => (HOE2.out.lt k hk).1)); obtain ⟨A1,k1,he1⟩:=own_slice1 hown1; subst he1; have HOS : Hid (w1.ownsRow ((w.alloc (.cells #[.slice AI ni cI,.slice AR n cR,.int .i64 lp] 33)).alloc (.cells #[.slice none 0 0,.slice none 0 0,.int .i64 0] 33)).heap.size 4 1 (.slice A1 ni k1) t.init.length (t.init.map Value.bool)):=zH (by have h9:=hown1; rw [flat_bools] at h9; rw [HN.out.1]; simpa using h9); have e2:=(HRDS.out _ HX1.out).2.1; have e3:=(HRDS.out _ HX1.out).2.2; have e8:=(HRDS.out _ (HX1.out.alloc HX1.out.size (.cells #[.slice none 0 0,.slice none 0 0,.int .i64 0] 33))).2.1; have e9:=(HRDS.out _ (HX1.out.alloc HX1.out.size (.cells #[.slice none 0 0,.slice none 0 0,.int .i64 0] 33))).2.2; clear hown1 hg1 hat1)))
  all_goals (
   go_wp2_with fail
   go_meet)
  all_goals (
   first
    | exact ⟨_,.slice A1 ni k1,.slice none 0 0,rfl,CT.new1 HX1.out HOS.out⟩
    | exact ⟨_,.slice A1 ni k1,.slice none 0 0,rfl,CT.new2 HX1.out HMB.out HML.out HOS.out⟩)
 case rest =>
  obtain ⟨g,iv,ov,rfl,hct⟩:=hcut
  have hW0s : w.heap.size ≤ ((w.alloc (.cells #[.slice AI ni cI,.slice AR n cR,.int .i64 lp] 33)).alloc (.cells #[.slice none 0 0,.slice none 0 0,.int .i64 0] 33)).heap.size ∧ w.heap.size + 1 < ((w.alloc (.cells #[.slice AI ni cI,.slice AR n cR,.int .i64 lp] 33)).alloc (.cells #[.slice none 0 0,.slice none 0 0,.int .i64 0] 33)).heap.size:=by simp; omega
  generalize ((w.alloc (.cells #[.slice AI ni cI,.slice AR n cR,.int .i64 lp] 33)).alloc (.cells #[.slice none 0 0,.slice none 0 0,.int .i64 0] 33)) = W0 at HALL hct hW0s
  have HWS:=zH hW0s
  have HC0:=zH hct
  obtain ⟨iA,ic,hie⟩:=own_slice1 hct.i
  subst hie
  clear hW0s hct HX
  go_wp2
  go_loopg [4] n (fun j iv wr => ∃ (k : Nat) (ow : Value) (us : List Value),k ≤ n ∧ iv = .int .i64 k ∧ j = n - k ∧ CT W0 wr g (.slice iA t.init.length ic) ow lp t.init us (t.rows.take k))
  case atStart => exact ⟨0,ov,[],Nat.zero_le _,rfl,rfl,by simpa using HC0.out⟩
  case round =>
   obtain ⟨k,ow,us,hk,rfl,hgk,hct⟩:=hrel
   subst hgk
   have hul : us.length = k:=by rw [hct.len,List.length_take,HN.out.2.1]; omega
   have HUL:=zH hul
   obtain ⟨oA,oc,hoe⟩:=own_slice1 hct.o
   rw [hul] at hoe
   subst hoe
   have HC:=zH hct
   clear HC0 hct hul
   have x1:=(HALL.out _ HC.out.below).1.cell 1
   have m1:=HC.out.blk.cell 1
   have m2:=HC.out.blk.frozen 1
   have m3:=HC.out.blk.lt
   simp only [List.getElem?_toArray,List.getElem?_cons_zero,List.getElem?_cons_succ] at x1 m1
   by_cases hlt : k < n
   · obtain ⟨row,hz⟩ : ∃ row,t.rows[k]? = some row:=⟨_,List.getElem?_eq_getElem (by rw [HN.out.2.1]; exact hlt)⟩
     obtain ⟨rb,ro,u,e,hrb,hu,hru⟩:=HRR.out k row hz
     subst e
     have hrl:=HRS.out row (List.mem_of_getElem? hz)
     obtain ⟨uA,uc,hue,hur⟩:=hru.reads lenO (by omega)
     subst hue
     obtain ⟨un,hun⟩ : ∃ un,row.length = un:=⟨_,rfl⟩
     rw [hun] at hu hur hrl
     have HUN:=zH hun
     have HUR:=zH hur
     have HTK : Hid (t.rows.take (k + 1) = t.rows.take k ++ [row]):=zH (by rw [List.take_add_one,hz]; rfl)
     have HSV : Hid (∀ w',Below wr.heap.size wr w' → w'.cell? ⟨g,1,none⟩ = some (.slice oA k oc) ∧ w'.cell? ⟨w.heap.size,1,none⟩ = some (.slice (some ⟨rb,ro,none⟩) n cR) ∧ w'.cell? ⟨rb,ro + k,none⟩ = some (.slice uA un uc)):=zH (fun wz hb => ⟨(hb.cell (p:=⟨g,1,none⟩) HC.out.blk.lt).trans (HC.out.blk.cell 1),(HALL.out _ (bt HC.out.below zN hb)).1.cell 1,((HALL.out _ (bt HC.out.below zN hb)).2.2.cell (p:=⟨rb,ro + k,none⟩) hrb).trans hu⟩)
     have hk0 : (0 : Int) ≤ (k : Int):=by omega
     have hk1 : (k : Int) < (n : Int):=by omega
     have HBD : Hid (Below wr.heap.size wr wr.drew):=zH (Below.refl _ _).drew
     have HOE : Hid ((wr.drew.alloc (.cells #[] 4)).ownsRow wr.heap.size 4 1 (.slice (some ⟨wr.heap.size,0,none⟩) 0 0) 0 []):=zH (World.ownsRow_made wr.drew #[] 0 zN (by simp [maxLen]) rfl)
     have HRD:=zH (HUR.out.below ((HALL.out _ (bt HC.out.below zN (HBD.out.alloc zN (.cells #[] 4)))).2.2))
     clear hz hu hru hur hrb hun
     go_wp2
     obtain ⟨f1,f2,f3⟩:=HSV.out _ HBD.out
     obtain ⟨f4,f5,f6⟩:=HSV.out _ (HBD.out.alloc zN (.cells #[] 4))
     obtain ⟨g4,g5,g6⟩:=HSV.out _ ((Below.refl wr.heap.size wr).alloc zN (.cells #[] 4))
     obtain ⟨g7,g8,g9⟩:=HSV.out _ ((Below.refl wr.heap.size wr).alloc zN (.cells #[] 4)).drew
     go_region_law ((first
      | (refine step_append_any _ rfl (.tmp 21) (.tmp 26) _ rfl wr.heap.size 4 i0 _ 1 1 Tryz.underlying30 HI0.out.1 HI0.out.2.1 HI0.out.2.2.1 HI0.out.2.2.2 rfl (by omega) (.slice (some ⟨wr.heap.size,0,none⟩) 0 0) 0 [] (by simp [Act.eval]) HOE.out w.heap.size uA un uc (row.flatMap encO) (by simp [Act.eval]) HRD.out (flat_one oneO row) (by simp only [maxLen]; omega) (by omega) (by first | (simp; done) | (simp; omega)) ?_; intro v1 w5 hown1 hg1 hat1; have HY:=zH ((HBD.out.alloc zN (.cells #[] 4)).grown hg1 (by first | (simp; done) | (simp; omega)) (fun q hq => (HOE.out.lt q hq).1)); obtain ⟨A1,k1,he1⟩:=own_slice1 hown1; subst he1; have HOS : Hid (w5.ownsRow wr.heap.size 4 1 (.slice A1 un k1) row.length (row.map Value.bool)):=zH (by have h9:=hown1; rw [flat_bools] at h9; rw [HUN.out]; simpa using h9); obtain ⟨f7,f8,f9⟩:=HSV.out _ HY.out; obtain ⟨fa,fb,fc⟩:=HSV.out _ (HY.out.alloc HY.out.size (.cells #[.slice A1 un k1] 30)); clear hown1 hg1 hat1)
      | (refine step_append_any _ rfl (.tmp 20) (.tmp 28) _ rfl W0.heap.size 30 iB _ 1 24 Tryz.underlying31 HIB.out.1 HIB.out.2.1 HIB.out.2.2.1 HIB.out.2.2.2 rfl (by omega) (.slice oA k oc) k us (by simp [Act.eval]) (by have h9:=own_below HC.out.o HY.out; rw [HUL.out] at h9; exact h9.alloc _) (w5.heap.size + 1) (some ⟨w5.heap.size,0,none⟩) 1 1 [.slice A1 un k1] (by simp [Act.eval]) (reads_one _ _ _) (by simp [Value.oneCell']) (by simp only [maxLen]; omega) (by omega) (by have:=HC.out.below.size; have:=HY.out.size; first | (simp; done) | (simp; omega)) ?_; intro v3 w7 hown3 hg3 hat3; obtain ⟨A3,k3,he3⟩:=own_slice1 hown3; subst he3; obtain ⟨hbk3,hct3⟩:=HC.out.put HY.out HOS.out _ (by rw [HUL.out]; exact hown3) hg3; have HC3:=zH hct3; have q0:=hbk3.cell 1; have q1:=hbk3.frozen 1; have q2:=hbk3.lt; simp only [List.getElem?_toArray,List.getElem?_cons_zero,List.getElem?_cons_succ] at q0; clear hown3 hg3 hat3 hbk3 hct3)))
     all_goals (
      go_wp2
      go_roundg (n - (k + 1))
      case measure => omega
      case rel => exact ⟨k + 1,_,_,by omega,by go_num,rfl,by rw [HTK.out]; exact HC3.out⟩)
   · have hke : k = n:=by omega
     have hct : CT W0 wr g (.slice iA t.init.length ic) (.slice oA k oc) lp t.init us t.rows:=by
      have h9:=HC.out
      rwa [List.take_of_length_le (by rw [HN.out.2.1]; omega)] at h9
     have hbk:=(HALL.out _ HC.out.below).2.1
     have hfi:=hct.fin hbk (.slice iA t.init.length ic) (.slice oA k oc) (.int .i64 lp)
     have hbf:=((((HALL.out _ HC.out.below).2.2).setCell (p:=⟨w.heap.size + 1,0,none⟩) (by simp) (.slice iA t.init.length ic)).setCell (p:=⟨w.heap.size + 1,1,none⟩) (by simp) (.slice oA k oc)).setCell (p:=⟨w.heap.size + 1,2,none⟩) (by simp) (.int .i64 lp)
     have hmb:=Blk.set_ (Blk.set_ (Blk.set_ hbk 0 (.slice iA t.init.length ic)) 1 (.slice oA k oc)) 2 (.int .i64 lp)
     have q0:=hbk.cell 0
     have q1:=hbk.cell 1
     have q2:=hbk.cell 2
     have q4:=hbk.frozen 0
     have q5:=hbk.frozen 1
     have q6:=hbk.frozen 2
     have q8:=hbk.lt
     have m0:=HC.out.blk.cell 0
     have m4:=HC.out.blk.cell 2
     simp only [List.getElem?_toArray,List.getElem?_cons_zero,List.getElem?_cons_succ] at q0 q1 q2 m0 m4
     obtain ⟨X,hX⟩ : ∃ X,X = (((wr.setCell ⟨w.heap.size + 1,0,none⟩ (.slice iA t.init.length ic)).setCell ⟨w.heap.size + 1,1,none⟩ (.slice oA k oc)).setCell ⟨w.heap.size + 1,2,none⟩ (.int .i64 lp)):=⟨_,rfl⟩
     rw [← hX] at hfi hbf hmb
     have z0 : X.cell? ⟨w.heap.size + 1,0,none⟩ = some (.slice iA t.init.length ic):=by rw [hmb.cell]; rfl
     have z1 : X.cell? ⟨w.heap.size + 1,1,none⟩ = some (.slice oA k oc):=by rw [hmb.cell]; rfl
     have z2 : X.cell? ⟨w.heap.size + 1,2,none⟩ = some (.int .i64 lp):=by rw [hmb.cell]; rfl
     have HFIN:=zH (And.intro hbf hfi)
     have HXX:=zH hX
     clear hbk hfi hbf hmb hX hct hke
     go_wp2
     rw [← HXX.out]
     refine bodyPost_ret (v:=.agg #[.slice iA t.init.length ic,.slice oA k oc,.int .i64 lp]) (by simp [results,Tryz.results5,go_sem,z0,z1,z2]) rfl ?_
     exact ⟨⟨_,_⟩,rfl,HFIN.out.1,_,HFIN.out.2⟩
end Go.Proofs.YtjbglgmbnjdhcaaGreat

import Derived.Test.YtjbglgmbnjdhcaaGreatRunC
import Derived.Test.YtjbglgmbnjdhcaaGreatSStarts
import Derived.Test.YtjbglgmbnjdhcaaGreatWesM
namespace Go.Proofs.YtjbglgmbnjdhcaaGreat
open Go.RowKit

set_option maxHeartbeats 8000000 in
set_option maxRecDepth 100000 in
theorem SameTrace_any (w : World) (U U2 : TV) (t : Tr) (h : t.In w U) (h2 : t.In w U2) :
 Calls Tryz.prog 10 #[U.val t.loop,U2.val t.loop] w fun e w' => e = .returned (.bool true) ∧ Below w.heap.size w w':=by
 have hall : ∀ wz,Below ((w.alloc (.cells (U.cells t.loop) 33)).alloc (.cells (U2.cells t.loop) 33)).heap.size ((w.alloc (.cells (U.cells t.loop) 33)).alloc (.cells (U2.cells t.loop) 33)) wz →
  Blk wz w.heap.size 33 (U.cells t.loop) ∧ Blk wz (w.heap.size + 1) 33 (U2.cells t.loop) ∧ Below w.heap.size w wz:=fun wz hb => by
  have h1 : Below w.heap.size w wz:=(((Below.refl w.heap.size w).alloc zN _).alloc (by simp) _).trans (hb.mono (by simp; omega))
  have e1:=((Blk.new w 33 (U.cells t.loop)).alloc (.cells (U2.cells t.loop) 33)).below hb (by simp; omega)
  have e2:=(Blk.new (w.alloc (.cells (U.cells t.loop) 33)) 33 (U2.cells t.loop)).below hb (by simp)
  rw [show (w.alloc (.cells (U.cells t.loop) 33)).heap.size = w.heap.size + 1 by simp] at e2
  exact ⟨e1,e2,h1⟩
 have hx0 : Below ((w.alloc (.cells (U.cells t.loop) 33)).alloc (.cells (U2.cells t.loop) 33)).heap.size ((w.alloc (.cells (U.cells t.loop) 33)).alloc (.cells (U2.cells t.loop) 33)) ((w.alloc (.cells (U.cells t.loop) 33)).alloc (.cells (U2.cells t.loop) 33)):=Below.refl _ _
 have HSA:=zH (fun (wx : World) (v u : Value) (zs : List Bool) (hx : RowE 1 encO wx v zs) (hy : RowE 1 encO wx u zs) => (show Calls Tryz.prog 23 #[v,u] wx fun e w' => e = .returned (.bool true) ∧ Below wx.heap.size wx w' from by have:=SameO_any wx v u zs zs hx hy; rwa [decide_eq_true (rfl : zs = zs)] at this))
 have HII:=zH (And.intro h.i h2.i)
 obtain ⟨AR,cR,eR,_,hrr⟩:=h.r.at_
 obtain ⟨BR,dR,fR,hrm,hss⟩:=h2.r.at_
 obtain ⟨AI,ni,cI,eI⟩:=slO_form h.i
 obtain ⟨BI,nj,dI,fI⟩:=slO_form h2.i
 obtain ⟨Ui,Ur⟩:=U
 obtain ⟨Ti,Tr'⟩:=U2
 simp only at eR fR eI fI
 subst eR fR eI fI
 obtain ⟨n,hn⟩ : ∃ n,t.rows.length = n:=⟨_,rfl⟩
 obtain ⟨lp,hlp⟩ : ∃ lp,t.loop = lp:=⟨_,rfl⟩
 rw [hn,hlp] at hall hx0
 rw [hn] at HII hrm
 rw [hn,hlp]
 have HALL:=zH hall
 have HX:=zH hx0
 have HRR:=zH hrr
 have HSS:=zH hss
 have HN:=zH hn
 unfold maxLen at hrm
 clear h h2 hall hx0 hrr hss hn hlp
 obtain ⟨x0,x1,x2⟩:=trio_of (HALL.out _ HX.out).1
 obtain ⟨y0,y1,y2⟩:=trio_of (HALL.out _ HX.out).2.1
 have q1 : (lp != lp) = false:=by simp
 have q2 : ((n : Int) != (n : Int)) = false:=by simp
 go_enter Tryz.func10,Tryz.ntmps10
 go_wp2_with (go_at_call 23; go_loud (refine (HSA.out _ _ _ t.init (HII.out.1.below (HALL.out _ HX.out).2.2) (HII.out.2.below (HALL.out _ HX.out).2.2)).mono ?_; rintro e w2 ⟨rfl,hb⟩; have HXN:=zH (bt HX.out zN hb); clear HX hb x0 x1 x2 y0 y1 y2; have HX:=HXN; clear HXN; obtain ⟨x0,x1,x2⟩:=trio_of (HALL.out _ HX.out).1; obtain ⟨y0,y1,y2⟩:=trio_of (HALL.out _ HX.out).2.1))
 generalize ((w.alloc (.cells #[.slice AI ni cI,.slice AR n cR,.int .i64 lp] 33)).alloc (.cells #[.slice BI nj dI,.slice BR n dR,.int .i64 lp] 33)) = W0 at HALL HX
 go_loopg [5] n (fun j iv wr => ∃ k : Nat,k ≤ n ∧ iv = .int .i64 k ∧ j = n - k ∧ Below W0.heap.size W0 wr)
 case atStart => exact ⟨0,Nat.zero_le _,rfl,rfl,HX.out⟩
 case round =>
  obtain ⟨k,hk,rfl,hgk,hbw⟩:=hrel
  subst hgk
  clear HX x0 x1 x2 y0 y1 y2
  have HX:=zH hbw
  clear hbw
  obtain ⟨x0,x1,x2⟩:=trio_of (HALL.out _ HX.out).1
  obtain ⟨y0,y1,y2⟩:=trio_of (HALL.out _ HX.out).2.1
  by_cases hlt : k < n
  · obtain ⟨row,hz⟩ : ∃ row,t.rows[k]? = some row:=⟨_,List.getElem?_eq_getElem (by rw [HN.out]; exact hlt)⟩
    obtain ⟨rb,ro,u,e,hrb,hu,hru⟩:=HRR.out k row hz
    subst e
    obtain ⟨sb,so,v,e,hsb,hv,hsv⟩:=HSS.out k row hz
    subst e
    obtain ⟨uA,un,uc,hue⟩:=slO_form hru
    subst hue
    obtain ⟨vA,vn,vc,hve⟩:=slO_form hsv
    subst hve
    have HRU:=zH (And.intro hru hsv)
    have HCL : Hid (∀ wz,Below wr.heap.size wr wz → (wz.cell? ⟨w.heap.size,1,none⟩ = some (.slice (some ⟨rb,ro,none⟩) n cR) ∧ wz.cell? ⟨w.heap.size + 1,1,none⟩ = some (.slice (some ⟨sb,so,none⟩) n dR) ∧ wz.cell? ⟨rb,ro + k,none⟩ = some (.slice uA un uc) ∧ wz.cell? ⟨sb,so + k,none⟩ = some (.slice vA vn vc)) ∧ RowE 1 encO wz (.slice uA un uc) row ∧ RowE 1 encO wz (.slice vA vn vc) row):=zH (fun wz hb => by
     have h1:=bt HX.out zN hb
     obtain ⟨_,e1,_⟩:=trio_of (HALL.out _ h1).1
     obtain ⟨_,f1,_⟩:=trio_of (HALL.out _ h1).2.1
     have h3:=(HALL.out _ h1).2.2
     exact ⟨⟨e1,f1,(h3.cell (p:=⟨rb,ro + k,none⟩) hrb).trans hu,(h3.cell (p:=⟨sb,so + k,none⟩) hsb).trans hv⟩,HRU.out.1.below h3,HRU.out.2.below h3⟩)
    have hk0 : (0 : Int) ≤ (k : Int):=by omega
    have hk1 : (k : Int) < (n : Int):=by omega
    clear hz hu hv hru hsv hrb hsb
    go_upto_region 6 with (fail)
    refine wp_region_quiet (C:=fun wz => Below wr.heap.size wr wz) (by kernel_rfl) (by kernel_rfl) (Below.refl wr.heap.size wr).drew ?_
    simp only
    repeat
     first
      | go_big_quiet_skip
      | (refine wpQuiet_step (fun K hK => ?_)
         rw [if_pos (by rfl)]
         unfold Oper.quiet
         apply Exists.intro
         refine And.intro (fun wx hWx => ?_) (hK _ ?_)
         · obtain ⟨⟨e1,f1,g1,g2⟩,g3,g4⟩:=HCL.out wx hWx
           first
            | (go_simp; exact rfl)
            | (go_simp; go_at_call 23; refine (HSA.out _ _ _ row g3 g4).mono ?_; rintro e w' ⟨rfl,hb'⟩; exact ⟨rfl,bt hWx zN hb'⟩)
         clear hK K
         try simp only [Act.put,zA,zB,zC])
    refine wpQuiet_nil ?_
    intro w5 hw5
    have HW5:=zH hw5
    clear hw5
    go_wp2
    go_roundg (n - (k + 1))
    case measure => omega
    case rel => exact ⟨k + 1,by omega,by go_num,rfl,bt HX.out zN HW5.out⟩
  · go_wp2
    go_ret
    exact ⟨rfl,(HALL.out _ HX.out).2.2⟩

theorem LentC.box {w w' : World} {B b : Nat} {C : Circ} {us : List Value} {V : CV} {t : TypeId} {cs : Array Value} (h : LentC w B C us V) (hb : Blk w b t cs) (ht : t = 29 ∨ t = 33) (ho : ∀ k,k ≠ b → w'.heap[k]? = w.heap[k]?) : LentC w' B C us V := by
 have hb' : w.heap[b]? = some (.cells cs t (0,0)):=hb
 have key : ∀ {g : Nat} {cur : Array Value} {e : TypeId},e ≠ t → w.heap[g]? = some (.cells cur e (0,0)) → w'.heap[g]? = some (.cells cur e (0,0)):=fun {g cur e} he hg =>
  (ho g (fun e3 => by
    subst e3
    rw [hg] at hb'
    injection hb' with hb'
    injection hb' with _ e4 _
    exact he e4)).trans hg
 have own : ∀ {e : TypeId} {z n : Nat} {v : Value} {xs : List Value},e ≠ t → w.ownsRow B e z v n xs → w'.ownsRow B e z v n xs:=fun he h0 => own_of_block h0 fun g hg => ho g (fun e => own_blk_ne h0 hb he (by rw [hg,e]))
 have li : ∀ {v : Value} {zs : List Int},Lent w B v zs → Lent w' B v zs:=fun hl => by
  obtain ⟨g,cap,cur,rfl,hB,hg,h⟩:=hl
  exact ⟨g,cap,cur,rfl,hB,key (by rcases ht with rfl | rfl <;> decide) hg,h⟩
 have lt : ∀ {e : TypeId} {v : Value} {zs : List Tri},e ≠ t → LentT w B e v zs → LentT w' B e v zs:=fun he hl => by
  obtain ⟨g,cap,cur,rfl,hB,hg,h⟩:=hl
  exact ⟨g,cap,cur,rfl,hB,key he hg,h⟩
 have d : ∀ e : TypeId,e ≠ 29 → e ≠ 33 → e ≠ t:=fun e h1 h2 => by rcases ht with rfl | rfl <;> assumption
 exact ⟨li h.i,lt (d _ (by decide) (by decide)) h.l,li h.o,li h.b,li h.c,⟨h.j.ul,own (d _ (by decide) (by decide)) h.j.own,fun i x zs hx hz => own (d _ (by decide) (by decide)) (h.j.each i x zs hx hz)⟩,li h.f,lt (d _ (by decide) (by decide)) h.a,own (d _ (by decide) (by decide)) h.s,own (d _ (by decide) (by decide)) h.t⟩
theorem OwnT.box {w w' : World} {B b : Nat} {tr : Tr} {U : TV} {t : TypeId} {cs : Array Value} (h : OwnT w B tr U) (hb : Blk w b t cs) (ht : t = 29 ∨ t = 33) (ho : ∀ k,k ≠ b → w'.heap[k]? = w.heap[k]?) : OwnT w' B tr U := by
 have own : ∀ {e : TypeId} {z n : Nat} {v : Value} {xs : List Value},e ≠ t → w.ownsRow B e z v n xs → w'.ownsRow B e z v n xs:=fun he h0 => own_of_block h0 fun g hg => ho g (fun e => own_blk_ne h0 hb he (by rw [hg,e]))
 have d : ∀ e : TypeId,e ≠ 29 → e ≠ 33 → e ≠ t:=fun e h1 h2 => by rcases ht with rfl | rfl <;> assumption
 obtain ⟨us,h1,h2,h3⟩:=h.ex
 exact ⟨own (d _ (by decide) (by decide)) h.i,us,h1,own (d _ (by decide) (by decide)) h2,fun i u zs hu hz => own (d _ (by decide) (by decide)) (h3 i u zs hu hz)⟩
theorem one_lent {w : World} {B : Nat} {V : CV} {us : List Value} {C : Circ} {m : Int} (h : LentC w B C us V) : (V.cells m).all (·.oneCell') = true := by
 obtain ⟨A0,n0,k0,hf0⟩:=sl_form h.in_.i
 obtain ⟨A1,n1,k1,hf1⟩:=sl_form h.in_.l
 obtain ⟨A2,n2,k2,hf2⟩:=sl_form h.in_.o
 obtain ⟨A3,n3,k3,hf3⟩:=sl_form h.in_.b
 obtain ⟨A4,n4,k4,hf4⟩:=sl_form h.in_.c
 obtain ⟨A5,n5,k5,hf5⟩:=sl_formL h.in_.j
 obtain ⟨A6,n6,k6,hf6⟩:=sl_form h.in_.f
 obtain ⟨A7,n7,k7,hf7⟩:=sl_form h.in_.a
 obtain ⟨A8,n8,k8,hf8⟩:=sl_form h.in_.s
 obtain ⟨A9,n9,k9,hf9⟩:=sl_form h.in_.t
 simp only [CV.cells]
 rw [hf0,hf1,hf2,hf3,hf4,hf5,hf6,hf7,hf8,hf9]
 simp [Value.oneCell']
theorem one_own {w : World} {B : Nat} {U : TV} {t : Tr} {lp : Int} (h : OwnT w B t U) : (U.cells lp).all (·.oneCell') = true := by
 obtain ⟨A0,n0,k0,hf0⟩:=slO_form h.in_.i
 obtain ⟨BR,dR,fR,_,_⟩:=h.in_.r.at_
 simp only [TV.cells]
 rw [hf0,fR]
 simp [Value.oneCell']
theorem alloc_trace (w : World) : (Instr.alloc 33 true (.tuple #[])).run Tryz.prog w = .ok (.pointer (some ⟨w.heap.size,0,none⟩)) (w.alloc (.cells #[.slice none 0 0,.slice none 0 0,.int .i64 0] 33)) := by kernel_rfl
theorem wp_act_eqR {P : Program} {ops : Array Oper} {Q : Exit → Act → World → Prop} {i : Nat} {K : Act → World → Prop} {a a' : Act} {w : World} (e : a = a') (h : wpOp P ops Q i K a' w) : wpOp P ops Q i K a w := e ▸ h
def srC (C : Circ) (m : Int) (v : Value) (w : World) : Prop := ∃ (V : CV) (us : List Value) (B : Nat),v = V.val m ∧ LentC w B C us V
def srT (t : Tr) (lp : Int) (v : Value) (w : World) : Prop := ∃ (U : TV) (B : Nat),v = U.val lp ∧ OwnT w B t U
def srB (N : Nat) (e : TypeId) (z : Array Value) (v : Value) (w : World) : Prop := ∃ b,v = .pointer (some ⟨b,0,none⟩) ∧ N ≤ b ∧ Blk w b e z
def zeroT : Array Value := #[.slice none 0 0,.slice none 0 0,.int .i64 0]
def srVals (N : Nat) (C : Circ) (t : Tr) (m lp : Int) (cv tv : Value) : List (Value → World → Prop) := [cst cv,srC C m,cst tv,srT t lp,srB N 29 zeroC,srB N 33 zeroT]
theorem sr_keep {N : Nat} {C : Circ} {t : Tr} {m lp : Int} {cv tv : Value} : ∀ i v w1 w2,Below (World.heap w1).size w1 w2 → valL (srVals N C t m lp cv tv) i v w1 → valL (srVals N C t m lp cv tv) i v w2 := by
 refine valL_keep (G:=fun w1 w2 => Below (World.heap w1).size w1 w2) _ (fun p hp => ?_)
 simp only [srVals,List.mem_cons,List.not_mem_nil,or_false] at hp
 rcases hp with rfl | rfl | rfl | rfl | rfl | rfl
 · exact cst_stab _
 · rintro v w1 w2 hb ⟨V,us,B,e,h⟩
   exact ⟨V,us,B,e,h.below hb⟩
 · exact cst_stab _
 · rintro v w1 w2 hb ⟨U,B,e,h⟩
   exact ⟨U,B,e,h.below hb⟩
 · rintro v w1 w2 hb ⟨b,e,h1,h2⟩
   exact ⟨b,e,h1,h2.below hb h2.lt⟩
 · rintro v w1 w2 hb ⟨b,e,h1,h2⟩
   exact ⟨b,e,h1,h2.below hb h2.lt⟩
structure RL (wc wr : World) (B2 B3 gm gm2 n : Nat) (xs ys zs : List MV) (bv : Value) (ms : List Mom) (k : Nat) : Prop where
 a : MomB wr gm n xs
 s : ∀ (j : Nat) (x : MV) (m : Mom),k ≤ j → xs[j]? = some x → ms[j]? = some m → wr.ownsRow wc.heap.size 4 1 x.s m.st.length (m.st.map Value.bool) ∧ wr.ownsRow wc.heap.size 3 1 x.b m.bads.length (m.bads.map (Value.int .i64))
 ap : ∀ (i j : Nat) (x y : MV),i < j → xs[i]? = some x → xs[j]? = some y → ApV x.s y.s ∧ ApV x.b y.b
 l : ∀ (j : Nat) (x : MV) (g : Nat),xs[j]? = some x → (x.s.ownBlock = some g ∨ x.b.ownBlock = some g) → wc.heap.size ≤ g ∧ g < B2
 g2 : B2 ≤ gm2
 b3 : B2 ≤ B3
 y : MomB wr gm2 n ys
 ym : Moms wr B2 ys ms
 z : DMs wr B3 bv zs ms
 below : Below wc.heap.size wc wr
theorem RL.on {wc wr w' : World} {B2 B3 gm gm2 n k : Nat} {xs ys zs : List MV} {bv : Value} {ms : List Mom} (h : RL wc wr B2 B3 gm gm2 n xs ys zs bv ms k) (hb : Below wr.heap.size wr w') : RL wc w' B2 B3 gm gm2 n xs ys zs bv ms k :=
 ⟨h.a.below hb h.a.lt,fun j x m hj hx hm => ⟨own_below (h.s j x m hj hx hm).1 hb,own_below (h.s j x m hj hx hm).2 hb⟩,h.ap,h.l,h.g2,h.b3,h.y.below hb h.y.lt,h.ym.below hb,h.z.below hb,bt h.below zN hb⟩
structure SR (w wx : World) (gi gt : Nat) (V U : CV) (us : List Value) (S R : TV) (C : Circ) (t : Tr) : Prop where
 c : Blk wx w.heap.size 29 (V.cells C.max)
 tr : Blk wx (w.heap.size + 1) 33 (S.cells t.loop)
 ci : Blk wx gi 29 (U.cells C.max)
 ti : Blk wx gt 33 (R.cells t.loop)
 l : ∃ B,LentC wx B C us U
 r : t.In wx R
 b : Below w.heap.size w wx
theorem SR.below {w wx wz : World} {gi gt : Nat} {V U : CV} {us : List Value} {S R : TV} {C : Circ} {t : Tr} (h : SR w wx gi gt V U us S R C t) (hb : Below wx.heap.size wx wz) : SR w wz gi gt V U us S R C t := by
 obtain ⟨B,hl⟩:=h.l
 exact ⟨h.c.below hb h.c.lt,h.tr.below hb h.tr.lt,h.ci.below hb h.ci.lt,h.ti.below hb h.ti.lt,⟨B,hl.below hb⟩,h.r.below hb,bt h.b zN hb⟩
end Go.Proofs.YtjbglgmbnjdhcaaGreat

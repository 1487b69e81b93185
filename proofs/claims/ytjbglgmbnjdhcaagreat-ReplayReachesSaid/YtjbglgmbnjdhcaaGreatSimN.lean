import Derived.Test.YtjbglgmbnjdhcaaGreatSimK
import Derived.Test.YtjbglgmbnjdhcaaGreatSimE
namespace Go.Proofs.YtjbglgmbnjdhcaaGreat
open Go.RowKit

structure Tr where
 init : List Bool
 rows : List (List Bool)
 loop : Int
structure TV where
 i : Value
 r : Value
abbrev TV.cells (U : TV) (k : Int) : Array Value := #[U.i,U.r,.int .i64 k]
abbrev TV.val (U : TV) (k : Int) : Value := .agg (U.cells k)
def ListsO (w : World) (v : Value) (zss : List (List Bool)) : Prop :=
 ∃ vs : List Value,RowE 1 encV w v vs ∧ vs.length = zss.length ∧ ∀ (i : Nat) (u : Value) (zs : List Bool),vs[i]? = some u → zss[i]? = some zs → RowE 1 encO w u zs
theorem ListsO.below {w w' : World} {v : Value} {zss : List (List Bool)} (h : ListsO w v zss) (hb : Below w.heap.size w w') : ListsO w' v zss := by
 obtain ⟨vs,h1,h2,h3⟩:=h
 exact ⟨vs,h1.below hb,h2,fun i u zs hu hz => (h3 i u zs hu hz).below hb⟩
theorem ListsO.at_ {w : World} {v : Value} {zss : List (List Bool)} (h : ListsO w v zss) : ∃ A c,v = .slice A zss.length c ∧ zss.length ≤ maxLen ∧ ∀ (i : Nat) (zs : List Bool),zss[i]? = some zs → ∃ b off u,A = some ⟨b,off,none⟩ ∧ b < w.heap.size ∧ w.cell? ⟨b,off + i,none⟩ = some u ∧ RowE 1 encO w u zs := by
 obtain ⟨vs,h1,h2,h3⟩:=h
 have hl:=h1.len
 obtain ⟨A,c,rfl,_,_,h6⟩:=h1
 refine ⟨A,c,by rw [h2],by rw [← h2]; exact hl,fun i zs hz => ?_⟩
 have hi : i < vs.length:=by rw [h2]; exact (List.getElem?_eq_some_iff.1 hz).1
 obtain ⟨b,off,e,hb,hc⟩:=h6 i _ (List.getElem?_eq_getElem hi)
 have:=hc 0 _ rfl
 simp only [Nat.add_zero,Nat.mul_one] at this
 exact ⟨b,off,_,e,hb,this,h3 i _ zs (List.getElem?_eq_getElem hi) hz⟩
structure Tr.In (w : World) (U : TV) (t : Tr) : Prop where
 i : RowE 1 encO w U.i t.init
 r : ListsO w U.r t.rows
theorem Tr.In.below {w w' : World} {U : TV} {t : Tr} (h : t.In w U) (hb : Below w.heap.size w w') : t.In w' U := ⟨h.i.below hb,h.r.below hb⟩
def rowsB (C : Circ) (rows : List (List Bool)) : Bool := rows.all fun r => decide (r.length = C.inputs.length)
def fitsB (C : Circ) (t : Tr) : Bool := decide (t.init.length = C.latches.length) && (decide (1 ≤ t.rows.length) && (decide (t.rows.length ≤ 512) && (rowsB C t.rows && decide (-1 ≤ t.loop ∧ t.loop < (t.rows.length : Int)))))
structure Fits (C : Circ) (t : Tr) : Prop where
 i : t.init.length = C.latches.length
 n1 : 1 ≤ t.rows.length
 n2 : t.rows.length ≤ 512
 r : ∀ r ∈ t.rows,r.length = C.inputs.length
 l : -1 ≤ t.loop ∧ t.loop < (t.rows.length : Int)
theorem fits_of {C : Circ} {t : Tr} (h : fitsB C t = true) : Fits C t := by
 unfold fitsB rowsB at h
 simp only [Bool.and_eq_true,decide_eq_true_eq,List.all_eq_true] at h
 obtain ⟨a,b,c,d,e⟩:=h
 exact ⟨a,b,c,d,e⟩
theorem trio_of {w' : World} {b : Nat} {x y : Value} {k : Int} (h : Blk w' b 33 #[x,y,.int .i64 k]) : w'.cell? ⟨b,0,none⟩ = some x ∧ w'.cell? ⟨b,1,none⟩ = some y ∧ w'.cell? ⟨b,2,none⟩ = some (.int .i64 k) := ⟨h.cell 0,h.cell 1,h.cell 2⟩

theorem infoO2 : (Tryz.prog.info? 4).map (fun i => (i.zero,i.size,i.bytes)) = some (some (.bool false),1,1) := by kernel_rfl
@[go_sem] theorem eql_nilO (a : Option Addr) (l c : Nat) (w : World) : (binOp .eql 30 (.slice a l c) (.slice none 0 0)).run Tryz.prog w = .ok (.bool a.isNone) w := by
 simp only [binOp]
 simp [run_equal_slice_nil w _ _ a l c Tryz.underlying30]
set_option maxHeartbeats 400000 in
set_option maxRecDepth 100000 in
theorem CloneO_any (w : World) (v : Value) (zs : List Bool) (h : RowE 1 encO w v zs) (hb : zs.length ≤ 140737488355328) :
 Calls Tryz.prog 65 #[v] w fun e w' => ∃ v',e = .returned v' ∧ w'.ownsRow w.heap.size 4 1 v' zs.length (zs.map Value.bool) ∧ Below w.heap.size w w':=by
 rw [← flat_bools]
 obtain ⟨A,c,rfl,hr⟩:=h.reads lenO (by omega)
 obtain ⟨i0,hi0,hz0,hz1,hz2⟩:=info_of2 infoO2
 cases A with
 | none =>
   have hz:=h.nil_of
   subst hz
   clear h hr hb
   go_enter Tryz.func65,Tryz.ntmps65
   go_wp2
   go_ret
   exact ⟨_,rfl,World.ownsRow_nil _ _ _ _,Below.refl _ _⟩
 | some ad =>
   clear h
   go_enter Tryz.func65,Tryz.ntmps65
   go_wp2_with (at_builtin; refine wpList_append_any _ rfl (.tmp 5) (.tmp 6) _ rfl w.heap.size 4 i0 _ 1 1 Tryz.underlying30 hi0 hz0 hz1 hz2 rfl (by omega) (.slice (some ⟨w.heap.size,0,none⟩) 0 0) 0 [] rfl (World.ownsRow_made w #[] 0 zN (by simp [maxLen]) rfl) w.heap.size (some ad) zs.length c (zs.flatMap encO) rfl (hr.alloc zN _) (flat_one oneO zs) (by simp only [maxLen]; omega) (by omega) (by simp) ?_; intro v1 w1 hown1 hg1 hat1)
   go_ret
   exact ⟨v1,rfl,by simpa using hown1,((Below.refl _ _).alloc zN _).grown hg1 (by simp) (by intro k hk; cases hk; exact Nat.le_refl _)⟩

set_option maxHeartbeats 4000000 in
set_option maxRecDepth 100000 in
theorem traceFits_any (w : World) (V : CV) (C : Circ) (U : TV) (t : Tr) (h : C.In w V) (ht : t.In w U) :
 Calls Tryz.prog 64 #[V.val C.max,U.val t.loop] w fun e w' => e = .returned (.bool (fitsB C t)) ∧ Below w.heap.size w w':=by
 have HSF:=zH (fun (wx : World) (hx : Below w.heap.size w wx) => stateFits_any wx V C U.i t.init (h.below hx) (ht.i.below hx))
 have HRF:=zH (fun (wx : World) (hx : Below w.heap.size w wx) (u : Value) (row : List Bool) (hu : RowE 1 encO w u row) => rowFits_any wx V C u row (h.below hx) (hu.below hx))
 have hall : ∀ wz,Below ((w.alloc (.cells (V.cells C.max) 29)).alloc (.cells (U.cells t.loop) 33)).heap.size ((w.alloc (.cells (V.cells C.max) 29)).alloc (.cells (U.cells t.loop) 33)) wz →
  Blk wz w.heap.size 29 (V.cells C.max) ∧ Blk wz (w.heap.size + 1) 33 (U.cells t.loop) ∧ Below w.heap.size w wz:=fun wz hb => by
  have h1 : Below w.heap.size w wz:=(((Below.refl w.heap.size w).alloc zN _).alloc (by simp) _).trans (hb.mono (by simp; omega))
  have e1:=((Blk.new w 29 (V.cells C.max)).alloc (.cells (U.cells t.loop) 33)).below hb (by simp; omega)
  have e2:=(Blk.new (w.alloc (.cells (V.cells C.max) 29)) 33 (U.cells t.loop)).below hb (by simp)
  rw [show (w.alloc (.cells (V.cells C.max) 29)).heap.size = w.heap.size + 1 by simp] at e2
  exact ⟨e1,e2,h1⟩
 have hx0 : Below ((w.alloc (.cells (V.cells C.max) 29)).alloc (.cells (U.cells t.loop) 33)).heap.size ((w.alloc (.cells (V.cells C.max) 29)).alloc (.cells (U.cells t.loop) 33)) ((w.alloc (.cells (V.cells C.max) 29)).alloc (.cells (U.cells t.loop) 33)):=Below.refl _ _
 obtain ⟨AR,cR,eR,hrm,hrr⟩:=ht.r.at_
 have hil:=ht.i.len
 obtain ⟨AI,nI,cI,eI⟩:=slO_form ht.i
 obtain ⟨Vi,Vl,Vo,Vb,Vc,Vj,Vf,Va,Vs,Vt⟩:=V
 obtain ⟨Ui,Ur⟩:=U
 simp only at eR eI
 subst eR eI
 obtain ⟨m,hmm⟩ : ∃ m,C.max = m:=⟨_,rfl⟩
 rw [hmm] at hall hx0 HSF HRF
 rw [hmm]
 have HALL:=zH hall
 have HX:=zH hx0
 have HRR:=zH hrr
 obtain ⟨r,hr⟩ : ∃ r,fitsB C t = r:=⟨_,rfl⟩
 rw [hr]
 have HR:=zH hr
 unfold maxLen at hrm hil
 clear h ht hall hx0 hrr hmm hr
 obtain ⟨c0,c1,c2,c3,c4,c5,c6,c7,c8,c9,c10⟩:=rbox_of (HALL.out _ HX.out).1
 obtain ⟨d0,d1,d2⟩:=trio_of (HALL.out _ HX.out).2.1
 by_cases g1 : t.init.length = C.latches.length
 · rw [decide_eq_true g1] at HSF
   have G1:=zH g1
   clear g1 hil
   by_cases g2 : 1 ≤ t.rows.length
   · by_cases g3 : t.rows.length ≤ 512
     · have HR2 : Hid ((rowsB C t.rows && decide (-1 ≤ t.loop ∧ t.loop < (t.rows.length : Int))) = r):=zH (by rw [← HR.out]; unfold fitsB; rw [decide_eq_true G1.out,decide_eq_true g2,decide_eq_true g3]; simp)
       obtain ⟨n,hn⟩ : ∃ n,t.rows.length = n:=⟨_,rfl⟩
       obtain ⟨lp,hlp⟩ : ∃ lp,t.loop = lp:=⟨_,rfl⟩
       rw [hn] at HR2 g2 g3 HALL HX hrm
       rw [hlp] at HR2 HALL HX d2
       rw [hn] at d1
       rw [hn,hlp]
       have HN:=zH hn
       clear hn hlp HR
       have g4 : (1 : Int) ≤ (n : Int):=by omega
       have g5 : (n : Int) ≤ 512:=by omega
       clear g2 g3
       go_enter Tryz.func64,Tryz.ntmps64
       go_upto_region 5 with (go_at_call 80; refine (HSF.out _ (HALL.out _ HX.out).2.2).mono ?_; rintro e w2 ⟨rfl,hb⟩; have HXN:=zH (bt HX.out zN hb); clear HX hb c0 c1 c2 c3 c4 c5 c6 c7 c8 c9 c10 d0 d1 d2; have HX:=HXN; clear HXN; obtain ⟨c0,c1,c2,c3,c4,c5,c6,c7,c8,c9,c10⟩:=rbox_of (HALL.out _ HX.out).1; obtain ⟨d0,d1,d2⟩:=trio_of (HALL.out _ HX.out).2.1)
       go_wp2
       go_loopg [27] n (fun j iv wr => ∃ k : Nat,k ≤ n ∧ iv = .int .i64 k ∧ j = n - k ∧ rowsB C (t.rows.take k) = true ∧ Below ((w.alloc (.cells #[.int .i64 m,Vi,Vl,Vo,Vb,Vc,Vj,Vf,Va,Vs,Vt] 29)).alloc (.cells #[.slice AI nI cI,.slice AR n cR,.int .i64 lp] 33)).heap.size ((w.alloc (.cells #[.int .i64 m,Vi,Vl,Vo,Vb,Vc,Vj,Vf,Va,Vs,Vt] 29)).alloc (.cells #[.slice AI nI cI,.slice AR n cR,.int .i64 lp] 33)) wr)
       case atStart => exact ⟨0,Nat.zero_le _,rfl,rfl,rfl,HX.out⟩
       case round =>
        obtain ⟨k,hk,rfl,hgk,hal,hbw⟩:=hrel
        subst hgk
        clear HX c0 c1 c2 c3 c4 c5 c6 c7 c8 c9 c10 d0 d1 d2
        have HX:=zH hbw
        have HAL:=zH hal
        clear hbw hal
        obtain ⟨c0,c1,c2,c3,c4,c5,c6,c7,c8,c9,c10⟩:=rbox_of (HALL.out _ HX.out).1
        obtain ⟨d0,d1,d2⟩:=trio_of (HALL.out _ HX.out).2.1
        by_cases hlt : k < n
        · obtain ⟨row,hz⟩ : ∃ row,t.rows[k]? = some row:=⟨_,List.getElem?_eq_getElem (by rw [HN.out]; exact hlt)⟩
          obtain ⟨b,off,u,e,hb,hu,hru⟩:=HRR.out k row hz
          subst e
          have hcu:=((HALL.out _ HX.out).2.2.cell (p:=⟨b,off + k,none⟩) hb).trans hu
          obtain ⟨uA,un,uc,hue⟩:=slO_form hru
          subst hue
          have HRU:=zH hru
          have HZ:=zH hz
          have hcall:=HRF.out wr (HALL.out _ HX.out).2.2 (.slice uA un uc) row HRU.out
          clear hu hru
          by_cases hrl : row.length = C.inputs.length
          · rw [decide_eq_true hrl] at hcall
            have HC:=zH hcall
            have HA2 : Hid (rowsB C (t.rows.take (k + 1)) = true):=zH (by
             have:=HAL.out
             unfold rowsB at this ⊢
             rw [List.take_add_one,HZ.out,List.all_append,this]; simp [hrl])
            clear hcall hrl hz
            go_wp2_with (go_at_call 81; refine HC.out.mono ?_; rintro e w2 ⟨rfl,hb⟩; have HXN:=zH (bt HX.out zN hb); clear HX hb c0 c1 c2 c3 c4 c5 c6 c7 c8 c9 c10 d0 d1 d2; have HX:=HXN; clear HXN; obtain ⟨c0,c1,c2,c3,c4,c5,c6,c7,c8,c9,c10⟩:=rbox_of (HALL.out _ HX.out).1; obtain ⟨d0,d1,d2⟩:=trio_of (HALL.out _ HX.out).2.1)
            go_roundg (n - (k + 1))
            case measure => omega
            case rel => exact ⟨k + 1,by omega,by go_num,rfl,HA2.out,HX.out⟩
          · rw [decide_eq_false hrl] at hcall
            have HC:=zH hcall
            have HF2 : Hid (false = r):=zH (by
             have : rowsB C t.rows = false:=by unfold rowsB; rw [List.all_eq_false]; exact ⟨row,List.mem_of_getElem? HZ.out,by simpa using hrl⟩
             rw [← HR2.out,this]; simp)
            clear hcall hrl hz
            go_wp2_with (go_at_call 81; refine HC.out.mono ?_; rintro e w2 ⟨rfl,hb⟩; have HXN:=zH (bt HX.out zN hb); clear HX hb c0 c1 c2 c3 c4 c5 c6 c7 c8 c9 c10 d0 d1 d2; have HX:=HXN; clear HXN; obtain ⟨c0,c1,c2,c3,c4,c5,c6,c7,c8,c9,c10⟩:=rbox_of (HALL.out _ HX.out).1; obtain ⟨d0,d1,d2⟩:=trio_of (HALL.out _ HX.out).2.1)
            go_ret
            exact ⟨ret_bool HF2.out,(HALL.out _ HX.out).2.2⟩
        · have hke : k = n:=by omega
          subst hke
          have HR3 : Hid (decide (-1 ≤ lp ∧ lp < (k : Int)) = r):=zH (by
           have:=HAL.out
           rw [List.take_of_length_le (by rw [HN.out]; exact Nat.le_refl _)] at this
           rw [← HR2.out,this]; simp)
          clear hlt hk HR2
          by_cases g6 : -1 ≤ lp
          · by_cases g7 : lp < (k : Int)
            · have HR4 : Hid (true = r):=zH (by rw [← HR3.out,decide_eq_true ⟨g6,g7⟩])
              clear HR3
              go_wp2
              go_ret
              exact ⟨ret_bool HR4.out,(HALL.out _ HX.out).2.2⟩
            · have HR4 : Hid (false = r):=zH (by rw [← HR3.out,decide_eq_false (fun h => g7 h.2)])
              clear HR3
              go_wp2
              go_ret
              exact ⟨ret_bool HR4.out,(HALL.out _ HX.out).2.2⟩
          · have HR4 : Hid (false = r):=zH (by rw [← HR3.out,decide_eq_false (fun h => g6 h.1)])
            clear HR3
            go_wp2
            go_ret
            exact ⟨ret_bool HR4.out,(HALL.out _ HX.out).2.2⟩
     · have HR2 : Hid (false = r):=zH (by rw [← HR.out]; unfold fitsB; rw [decide_eq_false g3]; simp)
       have g4 : (512 : Int) < (t.rows.length : Int):=by omega
       have g5 : ¬ (t.rows.length : Int) < 1:=by omega
       clear g2 g3 HR
       go_enter Tryz.func64,Tryz.ntmps64
       go_wp2_with (go_at_call 80; refine (HSF.out _ (HALL.out _ HX.out).2.2).mono ?_; rintro e w2 ⟨rfl,hb⟩; have HXN:=zH (bt HX.out zN hb); clear HX hb c0 c1 c2 c3 c4 c5 c6 c7 c8 c9 c10 d0 d1 d2; have HX:=HXN; clear HXN)
       go_ret
       exact ⟨ret_bool HR2.out,(HALL.out _ HX.out).2.2⟩
   · have HR2 : Hid (false = r):=zH (by rw [← HR.out]; unfold fitsB; rw [decide_eq_false g2]; simp)
     have g4 : (t.rows.length : Int) < 1:=by omega
     clear g2 HR
     go_enter Tryz.func64,Tryz.ntmps64
     go_wp2_with (go_at_call 80; refine (HSF.out _ (HALL.out _ HX.out).2.2).mono ?_; rintro e w2 ⟨rfl,hb⟩; have HXN:=zH (bt HX.out zN hb); clear HX hb c0 c1 c2 c3 c4 c5 c6 c7 c8 c9 c10 d0 d1 d2; have HX:=HXN; clear HXN)
     go_ret
     exact ⟨ret_bool HR2.out,(HALL.out _ HX.out).2.2⟩
 · have HR2 : Hid (false = r):=zH (by rw [← HR.out]; unfold fitsB; rw [decide_eq_false g1]; simp)
   rw [decide_eq_false g1] at HSF
   clear g1 HR
   go_enter Tryz.func64,Tryz.ntmps64
   go_wp2_with (go_at_call 80; refine (HSF.out _ (HALL.out _ HX.out).2.2).mono ?_; rintro e w2 ⟨rfl,hb⟩; have HXN:=zH (bt HX.out zN hb); clear HX hb c0 c1 c2 c3 c4 c5 c6 c7 c8 c9 c10 d0 d1 d2; have HX:=HXN; clear HXN)
   go_ret
   exact ⟨ret_bool HR2.out,(HALL.out _ HX.out).2.2⟩
open Go.RowKit

def runS (C : Circ) (O : List Int) (st : List Bool) (rows : List (List Bool)) : List Bool := rows.foldl (fun s r => nextF C (valF C O s r)) st
def momsG (C : Circ) (O : List Int) : List Bool → List (List Bool) → List Mom
 | _,[] => []
 | st,r :: rest => momOf C st (valF C O st r) :: momsG C O (nextF C (valF C O st r)) rest
theorem momsG_snoc (C : Circ) (O : List Int) (r : List Bool) : ∀ (rows : List (List Bool)) (st : List Bool),momsG C O st (rows ++ [r]) = momsG C O st rows ++ [momOf C (runS C O st rows) (valF C O (runS C O st rows) r)]
 | [],_ => rfl
 | x :: rest,st => by
   show momOf C st _ :: momsG C O _ (rest ++ [r]) = _
   rw [momsG_snoc C O r rest]
   rfl
theorem runS_snoc (C : Circ) (O : List Int) (r st : List Bool) (rows : List (List Bool)) : runS C O st (rows ++ [r]) = nextF C (valF C O (runS C O st rows) r) := by simp [runS,List.foldl_append]
theorem momsG_len (C : Circ) (O : List Int) : ∀ (rows : List (List Bool)) (st : List Bool),(momsG C O st rows).length = rows.length
 | [],_ => rfl
 | _ :: rest,_ => by
   show (momsG C O _ rest).length + 1 = _
   rw [momsG_len C O rest]; rfl
theorem runS_len (C : Circ) (O : List Int) {st : List Bool} (h : st.length = C.latches.length) : ∀ (rows : List (List Bool)),(runS C O st rows).length = C.latches.length := by
 intro rows
 induction rows generalizing st with
 | nil => exact h
 | cons r rest ih => exact ih (nextF_len C _)
def runE (C : Circ) (t : Tr) : Int := if (checkR C).2 = 0 then (if fitsB C t = true then 0 else 4) else (checkR C).2
theorem runE_bad {C : Circ} {t : Tr} (h : (checkR C).2 ≠ 0) : runE C t = (checkR C).2 := by unfold runE; rw [if_neg h]
theorem runE_not {C : Circ} {t : Tr} (h : (checkR C).2 = 0) (h1 : fitsB C t = false) : runE C t = 4 := by unfold runE; rw [if_pos h,if_neg (by simp [h1])]
theorem runE_yes {C : Circ} {t : Tr} (h : (checkR C).2 = 0) (h1 : fitsB C t = true) : runE C t = 0 := by unfold runE; rw [if_pos h,if_pos h1]
theorem sum_fold : ∀ (J : List (List Int)) (a : Nat),a + sumL J ≤ 4000000000000000000 → J.foldl (fun s zs => wrap64 (s + (zs.length : Int))) (a : Int) = ((a + sumL J : Nat) : Int)
 | [],a,_ => by simp [sumL]
 | z :: r,a,h => by
   have hs : sumL (z :: r) = z.length + sumL r:=by simp [sumL]
   rw [hs] at h ⊢
   have hw : wrap64 ((a : Int) + (z.length : Int)) = ((a + z.length : Nat) : Int):=by simp only [wrap64]; omega
   rw [List.foldl_cons,hw,sum_fold r (a + z.length) (by omega)]
   congr 1
   omega
theorem sumL_mul {J : List (List Int)} {b : Nat} (h : ∀ z ∈ J,z.length ≤ b) : sumL J ≤ J.length * b := by
 induction J with
 | nil => simp [sumL]
 | cons z r ih =>
   have h1:=ih (fun y hy => h y (by simp [hy]))
   have h2:=h z (by simp)
   have hs : sumL (z :: r) = z.length + sumL r:=by simp [sumL]
   rw [hs,List.length_cons,Nat.succ_mul]
   omega
theorem sum_ok {C : Circ} (h : (checkR C).2 = 0) (rm : C.Room) : sumL C.justice ≤ 16384 := by
 obtain ⟨h1,_⟩:=check_parts h
 have hj:=(right_of h).nj
 have hm : sumL C.justice ≤ C.justice.length * 17592186044416:=sumL_mul (fun z hz => by have:=rm.js z hz; omega)
 have h2:=(sizes_all h1).2 (sumW C.justice) (by simp [sizesL])
 unfold sumW at h2
 have h3:=sum_fold C.justice 0 (by omega)
 simp only [Nat.zero_add] at h3
 rw [show ((0 : Nat) : Int) = 0 from rfl] at h3
 rw [h3] at h2
 omega

structure MV where
 s : Value
 h : Bool
 b : Value
 f : Value
abbrev encM (x : MV) : List Value := [x.s,.bool x.h,x.b,x.f]
structure MomR (w : World) (B : Nat) (x : MV) (m : Mom) : Prop where
 s : w.ownsRow B 4 1 x.s m.st.length (m.st.map Value.bool)
 h : x.h = m.holds
 b : w.ownsRow B 3 1 x.b m.bads.length (m.bads.map (Value.int .i64))
 f : w.ownsRow B 114 2 x.f m.fair.length (m.fair.flatMap encQ)
def ApV (u v : Value) : Prop := ∀ g,u.ownBlock = some g → v.ownBlock ≠ some g
structure Moms (w : World) (B : Nat) (xs : List MV) (ms : List Mom) : Prop where
 len : xs.length = ms.length
 at_ : ∀ (i : Nat) (x : MV) (m : Mom),xs[i]? = some x → ms[i]? = some m → MomR w B x m
 apart : ∀ (i j : Nat) (x y : MV),i < j → xs[i]? = some x → xs[j]? = some y → ApV x.s y.s ∧ ApV x.b y.b
theorem MomR.keep {w w' : World} {B : Nat} {x : MV} {m : Mom} (h : MomR w B x m) (hk : ∀ (g : Nat),(x.s.ownBlock = some g ∨ x.b.ownBlock = some g ∨ x.f.ownBlock = some g) → w'.heap[g]? = w.heap[g]?) : MomR w' B x m :=
 ⟨own_of_block h.s (fun g hg => hk g (.inl hg)),h.h,own_of_block h.b (fun g hg => hk g (.inr (.inl hg))),own_of_block h.f (fun g hg => hk g (.inr (.inr hg)))⟩
theorem MomR.lt {w : World} {B : Nat} {x : MV} {m : Mom} (h : MomR w B x m) {g : Nat} (hg : x.s.ownBlock = some g ∨ x.b.ownBlock = some g ∨ x.f.ownBlock = some g) : B ≤ g ∧ g < w.heap.size := by
 rcases hg with hg | hg | hg
 · exact h.s.lt g hg
 · exact h.b.lt g hg
 · exact h.f.lt g hg
theorem MomR.ty {w : World} {B : Nat} {x : MV} {m : Mom} (h : MomR w B x m) {g : Nat} (hg : x.s.ownBlock = some g ∨ x.b.ownBlock = some g ∨ x.f.ownBlock = some g) : ∃ t cs,Blk w g t cs ∧ t ≠ 62 := by
 rcases hg with hg | hg | hg
 · obtain ⟨cs,hb⟩:=own_cellsF h.s hg; exact ⟨_,cs,hb,by decide⟩
 · obtain ⟨cs,hb⟩:=own_cellsF h.b hg; exact ⟨_,cs,hb,by decide⟩
 · obtain ⟨cs,hb⟩:=own_cellsF h.f hg; exact ⟨_,cs,hb,by decide⟩
theorem Moms.below {w w' : World} {B : Nat} {xs : List MV} {ms : List Mom} (h : Moms w B xs ms) (hb : Below w.heap.size w w') : Moms w' B xs ms :=
 ⟨h.len,fun i x m hx hm => (h.at_ i x m hx hm).keep (fun g hg => hb.block g ((h.at_ i x m hx hm).lt hg).2),h.apart⟩
theorem Moms.nil (w : World) (B : Nat) : Moms w B [] [] := ⟨rfl,fun i x m hx => by simp at hx,fun i j x y _ hx => by simp at hx⟩
theorem Moms.snoc {w : World} {B : Nat} {xs : List MV} {ms : List Mom} (h : Moms w B xs ms) {x : MV} {m : Mom} (hx : MomR w B x m) (hs : ∀ y ∈ xs,ApV y.s x.s ∧ ApV y.b x.b) : Moms w B (xs ++ [x]) (ms ++ [m]) := by
 refine ⟨by simp [h.len],fun i y n hy hn => ?_,fun i j y z hij hy hz => ?_⟩
 · by_cases hi : i < xs.length
   · rw [List.getElem?_append_left hi] at hy
     rw [List.getElem?_append_left (by rw [← h.len]; exact hi)] at hn
     exact h.at_ i y n hy hn
   · rw [List.getElem?_append_right (by omega)] at hy
     rw [List.getElem?_append_right (by rw [← h.len]; omega),← h.len] at hn
     have : i - xs.length = 0:=by have:=(List.getElem?_eq_some_iff.1 hy).1; simp at this; exact this
     rw [this] at hy hn
     simp at hy hn
     subst hy hn
     exact hx
 · have hjl : j < xs.length + 1:=by have:=(List.getElem?_eq_some_iff.1 hz).1; simpa using this
   rw [List.getElem?_append_left (by omega)] at hy
   by_cases hj : j < xs.length
   · rw [List.getElem?_append_left hj] at hz
     exact h.apart i j y z hij hy hz
   · rw [List.getElem?_append_right (by omega),show j - xs.length = 0 by omega] at hz
     simp at hz
     subst hz
     exact hs y (List.mem_of_getElem? hy)
def MomB (w : World) (g n : Nat) (xs : List MV) : Prop := ∃ cs : Array Value,Blk w g 62 cs ∧ cs.size = n * 4 ∧ ∀ (i : Nat) (x : MV),xs[i]? = some x → cs[i * 4]? = some x.s ∧ cs[i * 4 + 1]? = some (.bool x.h) ∧ cs[i * 4 + 2]? = some x.b ∧ cs[i * 4 + 3]? = some x.f
theorem MomB.lt {w : World} {g n : Nat} {xs : List MV} (h : MomB w g n xs) : g < w.heap.size := by
 obtain ⟨cs,hb,_⟩:=h
 exact hb.lt
theorem MomB.below {w w' : World} {g n B : Nat} {xs : List MV} (h : MomB w g n xs) (hb : Below B w w') (hg : g < B) : MomB w' g n xs := by
 obtain ⟨cs,h1,h2⟩:=h
 exact ⟨cs,h1.below hb hg,h2⟩
theorem MomB.cells {w : World} {g n : Nat} {xs : List MV} (h : MomB w g n xs) {i : Nat} {x : MV} (hx : xs[i]? = some x) : w.cell? ⟨g,i * 4,none⟩ = some x.s ∧ w.cell? ⟨g,i * 4 + 1,none⟩ = some (.bool x.h) ∧ w.cell? ⟨g,i * 4 + 2,none⟩ = some x.b ∧ w.cell? ⟨g,i * 4 + 3,none⟩ = some x.f := by
 obtain ⟨cs,h1,_,h3⟩:=h
 obtain ⟨a,b,c,d⟩:=h3 i x hx
 exact ⟨by rw [h1.cell,a],by rw [h1.cell,b],by rw [h1.cell,c],by rw [h1.cell,d]⟩
theorem MomB.room {w : World} {g n : Nat} {xs : List MV} (h : MomB w g n xs) {k : Nat} (hk : k < n * 4) : (∃ u,w.cell? ⟨g,k,none⟩ = some u) ∧ w.frozen? ⟨g,k,none⟩ = false := by
 obtain ⟨cs,h1,h2,_⟩:=h
 exact ⟨⟨_,by rw [h1.cell,Array.getElem?_eq_getElem (by omega)]⟩,h1.frozen k⟩
theorem MomB.put {w : World} {g n : Nat} {xs : List MV} (h : MomB w g n xs) (hk : xs.length < n) (x : MV) :
 MomB ((((w.setCell ⟨g,xs.length * 4,none⟩ x.s).setCell ⟨g,xs.length * 4 + 1,none⟩ (.bool x.h)).setCell ⟨g,xs.length * 4 + 2,none⟩ x.b).setCell ⟨g,xs.length * 4 + 3,none⟩ x.f) g n (xs ++ [x]):=by
 obtain ⟨cs,h1,h2,h3⟩:=h
 refine ⟨_,Blk.set_ (Blk.set_ (Blk.set_ (Blk.set_ h1 _ _) _ _) _ _) _ _,by simpa using h2,fun i y hy => ?_⟩
 by_cases hi : i < xs.length
 · rw [List.getElem?_append_left hi] at hy
   obtain ⟨a,b,c,d⟩:=h3 i y hy
   refine ⟨?_,?_,?_,?_⟩ <;> (repeat rw [Array.getElem?_setIfInBounds_ne (by omega)]) <;> assumption
 · rw [List.getElem?_append_right (by omega)] at hy
   have hz : i - xs.length = 0:=by have:=(List.getElem?_eq_some_iff.1 hy).1; simp at this; exact this
   have hie : i = xs.length:=by omega
   subst hie
   simp at hy
   subst hy
   refine ⟨?_,?_,?_,?_⟩
   · rw [Array.getElem?_setIfInBounds_ne (by omega),Array.getElem?_setIfInBounds_ne (by omega),Array.getElem?_setIfInBounds_ne (by omega),Array.getElem?_setIfInBounds_self_of_lt (by omega)]
   · rw [Array.getElem?_setIfInBounds_ne (by omega),Array.getElem?_setIfInBounds_ne (by omega),Array.getElem?_setIfInBounds_self_of_lt (by simp; omega)]
   · rw [Array.getElem?_setIfInBounds_ne (by omega),Array.getElem?_setIfInBounds_self_of_lt (by simp; omega)]
   · rw [Array.getElem?_setIfInBounds_self_of_lt (by simp; omega)]
theorem infoMM : (Tryz.prog.info? 62).map (fun i => (i.zero,i.size,i.bytes)) = some (some (.agg #[.slice none 0 0,.bool false,.slice none 0 0,.slice none 0 0]),4,80) := by kernel_rfl
theorem make_moms (n : Nat) (h : n ≤ 1000000) (wx : World) : (Instr.makeSlice 51 (.int .i64 (n : Int)) (.int .i64 (n : Int))).run Tryz.prog wx = .ok (.slice (some ⟨wx.heap.size,0,none⟩) n n) (wx.alloc (.cells (madeCells #[.slice none 0 0,.bool false,.slice none 0 0,.slice none 0 0] (n * 4)) 62)) := by
 obtain ⟨i0,hi0,hz0,hz1,hz2⟩:=info_of' infoMM
 have:=run_make (P:=Tryz.prog) wx 51 62 i0 (.agg #[.slice none 0 0,.bool false,.slice none 0 0,.slice none 0 0]) Tryz.underlying51 hi0 hz0 .i64 .i64 n n (by omega) (by omega) (by rw [hz2]; omega) (by omega)
 rw [hz1] at this
 simpa [Value.cells] using this
theorem new_moms (w : World) (n : Nat) : MomB (w.alloc (.cells (madeCells #[.slice none 0 0,.bool false,.slice none 0 0,.slice none 0 0] (n * 4)) 62)) w.heap.size n [] :=
 ⟨_,Blk.new w _ _,size_madeCells _ _,fun i x hx => by simp at hx⟩
open Go.RowKit

theorem tab_ownO {w : World} {B g : Nat} {L : List Bool} (h : Tab w g L) (hB : B ≤ g) (hm : L.length ≤ maxLen) : w.ownsRow B 4 1 (.slice (some ⟨g,0,none⟩) L.length L.length) L.length (L.map Value.bool) :=
 ⟨by simp,.inr ⟨g,L.length,_,rfl,hB,h,Nat.le_refl _,hm,by simp,by rw [List.take_of_length_le (by simp)]⟩⟩
section
variable {w : World} {gm n : Nat} {xs : List MV}
theorem heap_four (w : World) (gm k : Nat) (x0 x1 x2 x3 : Value) {g : Nat} (h : g ≠ gm) : ((((w.setCell ⟨gm,k,none⟩ x0).setCell ⟨gm,k + 1,none⟩ x1).setCell ⟨gm,k + 2,none⟩ x2).setCell ⟨gm,k + 3,none⟩ x3).heap[g]? = w.heap[g]? := by
 rw [Below.heap_setCell _ _ _ _ (by simpa using h),Below.heap_setCell _ _ _ _ (by simpa using h),Below.heap_setCell _ _ _ _ (by simpa using h),Below.heap_setCell _ _ _ _ (by simpa using h)]
theorem own_four {B nn size k : Nat} {t : TypeId} {v : Value} {ys : List Value} (h : w.ownsRow B t size v nn ys) (hm : MomB w gm n xs) (hne : t ≠ 62) (x0 x1 x2 x3 : Value) :
 ((((w.setCell ⟨gm,k,none⟩ x0).setCell ⟨gm,k + 1,none⟩ x1).setCell ⟨gm,k + 2,none⟩ x2).setCell ⟨gm,k + 3,none⟩ x3).ownsRow B t size v nn ys :=
 own_of_block h (fun g hg => heap_four w gm k x0 x1 x2 x3 (fun e => by
  obtain ⟨cs,hb⟩:=own_cellsF h hg
  obtain ⟨cs2,hb2,_⟩:=hm
  subst e
  exact Blk.ne_ hb hb2 hne rfl))
theorem Moms.four {B k : Nat} {ms : List Mom} {ys : List MV} (h : Moms w B ys ms) (hm : MomB w gm n xs) (x0 x1 x2 x3 : Value) :
 Moms ((((w.setCell ⟨gm,k,none⟩ x0).setCell ⟨gm,k + 1,none⟩ x1).setCell ⟨gm,k + 2,none⟩ x2).setCell ⟨gm,k + 3,none⟩ x3) B ys ms :=
 ⟨h.len,fun i x m hx hmm => (h.at_ i x m hx hmm).keep (fun g hg => heap_four w gm k x0 x1 x2 x3 (fun e => by
   obtain ⟨t,cs,hb,hne⟩:=(h.at_ i x m hx hmm).ty hg
   obtain ⟨cs2,hb2,_⟩:=hm
   subst e
   exact Blk.ne_ hb hb2 hne rfl)),h.apart⟩
theorem below_four {B k : Nat} {w0 : World} (h : Below B w0 w) (hg : B ≤ gm) (x0 x1 x2 x3 : Value) : Below B w0 ((((w.setCell ⟨gm,k,none⟩ x0).setCell ⟨gm,k + 1,none⟩ x1).setCell ⟨gm,k + 2,none⟩ x2).setCell ⟨gm,k + 3,none⟩ x3) :=
 (((h.setCell hg _).setCell hg _).setCell hg _).setCell hg _
theorem size_four (w : World) (gm k : Nat) (x0 x1 x2 x3 : Value) : ((((w.setCell ⟨gm,k,none⟩ x0).setCell ⟨gm,k + 1,none⟩ x1).setCell ⟨gm,k + 2,none⟩ x2).setCell ⟨gm,k + 3,none⟩ x3).heap.size = w.heap.size := by simp [World.setCell]
end
set_option maxHeartbeats 8000000 in
set_option maxRecDepth 100000 in
theorem Run_any (w : World) (V : CV) (C : Circ) (U : TV) (t : Tr) (O : List Int) (h : C.In w V) (ok : C.Ok) (rm : C.Room) (ht : t.In w U) (hO : (checkR C).2 = 0 → IsOrd C O) :
 Calls Tryz.prog 36 #[V.val C.max,U.val t.loop] w fun e w' => Below w.heap.size w w' ∧ ∃ v,e = .returned (.tuple #[v,.int .i64 (runE C t)]) ∧ (runE C t ≠ 0 → v = .slice none 0 0) ∧
  (runE C t = 0 → ∃ gm xs,v = .slice (some ⟨gm,0,none⟩) t.rows.length t.rows.length ∧ w.heap.size ≤ gm ∧ MomB w' gm t.rows.length xs ∧ Moms w' w.heap.size xs (momsG C O t.init t.rows)):=by
 have hall : ∀ wz,Below ((w.alloc (.cells (V.cells C.max) 29)).alloc (.cells (U.cells t.loop) 33)).heap.size ((w.alloc (.cells (V.cells C.max) 29)).alloc (.cells (U.cells t.loop) 33)) wz →
  Blk wz w.heap.size 29 (V.cells C.max) ∧ Blk wz (w.heap.size + 1) 33 (U.cells t.loop) ∧ Below w.heap.size w wz:=fun wz hb => by
  have h1 : Below w.heap.size w wz:=(((Below.refl w.heap.size w).alloc zN _).alloc (by simp) _).trans (hb.mono (by simp; omega))
  have e1:=((Blk.new w 29 (V.cells C.max)).alloc (.cells (U.cells t.loop) 33)).below hb (by simp; omega)
  have e2:=(Blk.new (w.alloc (.cells (V.cells C.max) 29)) 33 (U.cells t.loop)).below hb (by simp)
  rw [show (w.alloc (.cells (V.cells C.max) 29)).heap.size = w.heap.size + 1 by simp] at e2
  exact ⟨e1,e2,h1⟩
 have hx0 : Below ((w.alloc (.cells (V.cells C.max) 29)).alloc (.cells (U.cells t.loop) 33)).heap.size ((w.alloc (.cells (V.cells C.max) 29)).alloc (.cells (U.cells t.loop) 33)) ((w.alloc (.cells (V.cells C.max) 29)).alloc (.cells (U.cells t.loop) 33)):=Below.refl _ _
 have hW0 : ((w.alloc (.cells (V.cells C.max) 29)).alloc (.cells (U.cells t.loop) 33)).heap.size = w.heap.size + 1 + 1:=by simp
 have HIN:=zH h
 have HIT:=zH ht
 have hord:=fun (wx : World) (hb : Below w.heap.size w wx) => Order_any wx V C (h.below hb) ok
 have htf:=fun (wx : World) (hb : Below w.heap.size w wx) => traceFits_any wx V C U t (h.below hb) (ht.below hb)
 have hcl:=fun (wx : World) (hb : Below w.heap.size w wx) (hl : t.init.length ≤ 140737488355328) => CloneO_any wx U.i t.init (ht.i.below hb) hl
 have hvo:=fun (h0 : (checkR C).2 = 0) (wx : World) (gv sv rv : Value) (st row : List Bool) (hb : Below w.heap.size w wx) (hg : RowE 1 encI wx gv O) (hs : RowE 1 encO wx sv st) (hr : RowE 1 encO wx rv row) (h1 : st.length = C.latches.length) (h2 : row.length = C.inputs.length) =>
  valuesOf_any wx V C gv sv rv O st row (h.below hb) hg hs hr (right_of h0) h1 h2 (hO h0).inR (by rw [(hO h0).l]; exact (right_of h0).na)
 have hmo:=fun (h0 : (checkR C).2 = 0) (wx : World) (sA : Option Addr) (sn sc bq : Nat) (v : Value) (T : List Bool) (hb : Below w.heap.size w wx) (hc : wx.cell? ⟨bq,0,none⟩ = some v) (hq : bq < wx.heap.size) (hv : RowE 1 encO wx v T) (hT : T.length = C.max.toNat + 1) =>
  momentOf_any wx V C sA sn sc bq v T (h.below hb) (right_of h0) (sum_ok h0 rm) hc hq hv hT
 have hnx:=fun (h0 : (checkR C).2 = 0) (wx : World) (bq : Nat) (v : Value) (T : List Bool) (hb : Below w.heap.size w wx) (hc : wx.cell? ⟨bq,0,none⟩ = some v) (hq : bq < wx.heap.size) (hv : RowE 1 encO wx v T) (hT : T.length = C.max.toNat + 1) =>
  nextOf_any wx V C bq v T (h.below hb) (right_of h0) hc hq hv hT
 obtain ⟨AR,cR,eR,hrm,hrr⟩:=ht.r.at_
 obtain ⟨AI,nI,cI,eI⟩:=slO_form ht.i
 obtain ⟨Vi,Vl,Vo,Vb,Vc,Vj,Vf,Va,Vs,Vt⟩:=V
 obtain ⟨Ui,Ur⟩:=U
 simp only at eR eI
 subst eR eI
 obtain ⟨m,hmm⟩ : ∃ m,C.max = m:=⟨_,rfl⟩
 obtain ⟨r,hrr0⟩ : ∃ r,(checkR C).2 = r:=⟨_,rfl⟩
 obtain ⟨n,hn⟩ : ∃ n,t.rows.length = n:=⟨_,rfl⟩
 obtain ⟨lp,hlp⟩ : ∃ lp,t.loop = lp:=⟨_,rfl⟩
 rw [hmm,hn,hlp] at hall hx0 hW0
 rw [hmm] at hord hvo hmo hnx
 rw [hmm,hn,hlp] at htf
 rw [hrr0] at hord hvo hmo hnx
 rw [hmm,hn,hlp]
 have HALL:=zH hall
 have HX:=zH hx0
 have HW0:=zH hW0
 have HRR:=zH hrr
 have HORD:=zH hord
 have HTF:=zH htf
 have HCL:=zH hcl
 have HVO:=zH hvo
 have HMO:=zH hmo
 have HNX:=zH hnx
 have HO:=zH hO
 have HR0:=zH hrr0
 have HN:=zH hn
 have HMM:=zH hmm
 unfold maxLen at hrm
 clear h ht ok rm hall hx0 hW0 hord htf hcl hvo hmo hnx hrr hmm hrr0 hn hlp hO
 obtain ⟨c0,c1,c2,c3,c4,c5,c6,c7,c8,c9,c10⟩:=rbox_of (HALL.out _ HX.out).1
 obtain ⟨d0,d1,d2⟩:=trio_of (HALL.out _ HX.out).2.1
 by_cases h0 : r = 0
 · subst h0
   have HRT:=zH (right_of HR0.out)
   cases hfb : fitsB C t
   · have HE:=zH (runE_not HR0.out hfb)
     rw [hfb] at HTF
     rw [HE.out]
     clear hfb HVO HMO HNX
     go_enter Tryz.func36,Tryz.ntmps36
     go_wp2_with (first
      | (go_at_call 63; refine (HORD.out _ (HALL.out _ HX.out).2.2).mono ?_; rintro e w1 ⟨hb,v1,out1,rfl,_,_⟩; have HXN:=zH (bt HX.out zN hb); clear HX hb c0 c1 c2 c3 c4 c5 c6 c7 c8 c9 c10 d0 d1 d2; have HX:=HXN; clear HXN; obtain ⟨c0,c1,c2,c3,c4,c5,c6,c7,c8,c9,c10⟩:=rbox_of (HALL.out _ HX.out).1; obtain ⟨d0,d1,d2⟩:=trio_of (HALL.out _ HX.out).2.1)
      | (go_at_call 64; refine (HTF.out _ (HALL.out _ HX.out).2.2).mono ?_; rintro e w2 ⟨rfl,hb⟩; have HXN:=zH (bt HX.out zN hb); clear HX hb c0 c1 c2 c3 c4 c5 c6 c7 c8 c9 c10 d0 d1 d2; have HX:=HXN; clear HXN; obtain ⟨c0,c1,c2,c3,c4,c5,c6,c7,c8,c9,c10⟩:=rbox_of (HALL.out _ HX.out).1; obtain ⟨d0,d1,d2⟩:=trio_of (HALL.out _ HX.out).2.1))
     go_ret2
     exact ⟨(HALL.out _ HX.out).2.2,_,rfl,fun _ => rfl,fun h => absurd h (by decide)⟩
   · have HE:=zH (runE_yes HR0.out hfb)
     have HF:=zH (fits_of hfb)
     rw [hfb] at HTF
     rw [HE.out]
     have hn2 : n ≤ 512:=by have:=HF.out.n2; rw [HN.out] at this; exact this
     have hmk:=make_moms n (by omega)
     obtain ⟨nl,hnl⟩ : ∃ nl,C.latches.length = nl:=⟨_,rfl⟩
     have HNL:=zH hnl
     have hil : t.init.length = nl:=by rw [HF.out.i,HNL.out]
     have HIL:=zH hil
     clear hfb hnl hil
     go_enter Tryz.func36,Tryz.ntmps36
     go_upto_region 9 with (first
      | (go_at_call 63; refine (HORD.out _ (HALL.out _ HX.out).2.2).mono ?_; rintro e w1 ⟨hb,v1,out1,rfl,_,hyes⟩; obtain ⟨ho1,hg1,hl1⟩:=hyes rfl; obtain rfl:=(HO.out HR0.out).same hg1 hl1; obtain ⟨gA,gc,hge⟩:=own_slice1 ho1; subst hge; have HO1:=zH (own_le ho1 (HALL.out _ HX.out).2.2.size); clear hyes ho1 hg1 hl1; have HXN:=zH (bt HX.out zN hb); clear HX hb c0 c1 c2 c3 c4 c5 c6 c7 c8 c9 c10 d0 d1 d2; have HX:=HXN; clear HXN; obtain ⟨c0,c1,c2,c3,c4,c5,c6,c7,c8,c9,c10⟩:=rbox_of (HALL.out _ HX.out).1; obtain ⟨d0,d1,d2⟩:=trio_of (HALL.out _ HX.out).2.1)
      | (go_at_call 64; refine (HTF.out _ (HALL.out _ HX.out).2.2).mono ?_; rintro e w2 ⟨rfl,hb⟩; have HO2:=zH (own_below HO1.out hb); have HXN:=zH (bt HX.out zN hb); clear HX hb c0 c1 c2 c3 c4 c5 c6 c7 c8 c9 c10 d0 d1 d2; have HX:=HXN; clear HXN; obtain ⟨c0,c1,c2,c3,c4,c5,c6,c7,c8,c9,c10⟩:=rbox_of (HALL.out _ HX.out).1; obtain ⟨d0,d1,d2⟩:=trio_of (HALL.out _ HX.out).2.1; obtain ⟨p0,p1,p2⟩:=trio_of (HALL.out _ (HX.out.alloc HX.out.size (.cells (madeCells #[.slice none 0 0,.bool false,.slice none 0 0,.slice none 0 0] (n * 4)) 62))).2.1)
      | (go_at_call 65; have HG0:=zH (new_moms w2 n); have hXA:=HX.out.alloc HX.out.size (.cells (madeCells #[.slice none 0 0,.bool false,.slice none 0 0,.slice none 0 0] (n * 4)) 62); have HSZ : Hid (w.heap.size + 1 + 1 ≤ w2.heap.size):=zH (by have:=HX.out.size; rw [HW0.out] at this; exact this); refine (HCL.out _ (HALL.out _ hXA).2.2 (by have:=HF.out.i; have:=HRT.out.nl; omega)).mono ?_; rintro e w3 ⟨sv,rfl,hso,hb⟩; rw [HIL.out] at hso; obtain ⟨svA,svc,hse⟩:=own_slice1 hso; subst hse; have HO3:=zH (own_below (HO2.out.alloc _) hb); have HG3:=zH (HG0.out.below hb HG0.out.lt); have HS3:=zH (own_le hso (HALL.out _ hXA).2.2.size); have HXN:=zH (bt hXA zN hb); clear HX hb hXA hso p0 p1 p2 c0 c1 c2 c3 c4 c5 c6 c7 c8 c9 c10 d0 d1 d2; have HX:=HXN; clear HXN; obtain ⟨c0,c1,c2,c3,c4,c5,c6,c7,c8,c9,c10⟩:=rbox_of (HALL.out _ HX.out).1; obtain ⟨d0,d1,d2⟩:=trio_of (HALL.out _ HX.out).2.1))
     clear HG0 HO1 HO2
     generalize w2.heap.size = gm at *
     clear hmk
     go_loopg [9,35] n (fun j ov iv wr => ∃ (k : Nat) (xs : List MV) (sA : Option Addr) (sc : Nat),k ≤ n ∧ iv = .int .i64 k ∧ j = n - k ∧ ov = .slice sA nl sc ∧ Below ((w.alloc (.cells #[.int .i64 m,Vi,Vl,Vo,Vb,Vc,Vj,Vf,Va,Vs,Vt] 29)).alloc (.cells #[.slice AI nI cI,.slice AR n cR,.int .i64 lp] 33)).heap.size ((w.alloc (.cells #[.int .i64 m,Vi,Vl,Vo,Vb,Vc,Vj,Vf,Va,Vs,Vt] 29)).alloc (.cells #[.slice AI nI cI,.slice AR n cR,.int .i64 lp] 33)) wr ∧ wr.ownsRow w.heap.size 3 1 (.slice gA out1.length gc) out1.length (out1.map (Value.int .i64)) ∧ MomB wr gm n xs ∧
      Moms wr w.heap.size xs (momsG C out1 t.init (t.rows.take k)) ∧ wr.ownsRow w.heap.size 4 1 (.slice sA nl sc) nl ((runS C out1 t.init (t.rows.take k)).map Value.bool) ∧ (∀ y ∈ xs,ApV y.s (.slice sA nl sc)))
     case atStart => exact ⟨0,[],svA,svc,Nat.zero_le _,rfl,rfl,rfl,HX.out,HO3.out,HG3.out,Moms.nil _ _,HS3.out,fun y hy => by simp at hy⟩
     case round =>
      obtain ⟨k,xs,sA,sc,hk,rfl,hgk,rfl,hbw,hog,hmb,hms,hso,hap⟩:=hrel
      subst hgk
      clear HX HO3 HG3 HS3 c0 c1 c2 c3 c4 c5 c6 c7 c8 c9 c10 d0 d1 d2
      have HX:=zH hbw
      have HOG:=zH hog
      have HMB:=zH hmb
      have HMS:=zH hms
      have HSO:=zH hso
      have HAP:=zH hap
      clear hbw hog hmb hms hso hap
      obtain ⟨c0,c1,c2,c3,c4,c5,c6,c7,c8,c9,c10⟩:=rbox_of (HALL.out _ HX.out).1
      obtain ⟨d0,d1,d2⟩:=trio_of (HALL.out _ HX.out).2.1
      by_cases hlt : k < n
      · obtain ⟨row,hz⟩ : ∃ row,t.rows[k]? = some row:=⟨_,List.getElem?_eq_getElem (by rw [HN.out]; exact hlt)⟩
        obtain ⟨b,off,u,e,hb,hu,hru⟩:=HRR.out k row hz
        subst e
        have hcu:=((HALL.out _ HX.out).2.2.cell (p:=⟨b,off + k,none⟩) hb).trans hu
        obtain ⟨uA,un,uc,hue⟩:=slO_form hru
        subst hue
        have HRU:=zH (hru.below (HALL.out _ HX.out).2.2)
        have HTK : Hid (t.rows.take (k + 1) = t.rows.take k ++ [row]):=zH (by rw [List.take_add_one,hz]; rfl)
        have HRL:=zH (HF.out.r row (List.mem_of_getElem? hz))
        have hxl : xs.length = k:=by rw [HMS.out.len,momsG_len,List.length_take,HN.out]; omega
        have HXL:=zH hxl
        obtain ⟨st,hst⟩ : ∃ st,runS C out1 t.init (t.rows.take k) = st:=⟨_,rfl⟩
        have HSL : Hid (st.length = nl):=zH (by rw [← hst,runS_len C out1 HF.out.i,HNL.out])
        rw [hst] at HSO
        have HST:=zH hst
        have HSR : Hid (RowE 1 encO wr (.slice sA nl sc) st):=zH (own_rowe lenO (by rw [flat_bools,HSL.out]; exact HSO.out))
        have HOR : Hid (RowE 1 encI wr (.slice gA out1.length gc) out1):=zH (own_rowe lenI (by rw [flat_ints]; exact HOG.out))
        have hvc:=HVO.out (by first | rfl | trivial) wr _ _ _ st row (HALL.out _ HX.out).2.2 HOR.out HSR.out HRU.out (by rw [HSL.out,HNL.out]) HRL.out
        obtain ⟨T,hT⟩ : ∃ T,valF C out1 st row = T:=⟨_,rfl⟩
        have HTL : Hid (T.length = m.toNat + 1):=zH (by rw [← hT,valF_len,HMM.out])
        rw [hT] at hvc
        have HT:=zH hT
        have HVC:=zH hvc
        clear hz hu hru hxl hst hvc hT
        go_upto_region 12 with (first
         | (go_at_call 67; refine HVC.out.mono ?_; rintro e wa ⟨g1,rfl,hg1,hb,ht1⟩; have HG1:=zH hg1; have HT1:=zH ht1; have HWA:=zH hb; clear hg1 ht1; have HXN:=zH (bt HX.out zN hb); clear HX hb c0 c1 c2 c3 c4 c5 c6 c7 c8 c9 c10 d0 d1 d2; have HX:=HXN; clear HXN; obtain ⟨c0,c1,c2,c3,c4,c5,c6,c7,c8,c9,c10⟩:=rbox_of (HALL.out _ HX.out).1; obtain ⟨d0,d1,d2⟩:=trio_of (HALL.out _ HX.out).2.1)
         | (go_at_call 66; go_loud (refine (asker_any _ _ _ _).mono ?_; rintro e wx ⟨rfl,hwx⟩; have hb : Below wa.heap.size wa wx:=(by rw [hwx]; exact (Below.refl _ _).alloc zN _); have HWX:=zH hb; have HTB : Hid (Tab wx g1 T):=zH (Blk.below HT1.out hb (Blk.lt HT1.out)); have HBQ : Hid (Blk wx wa.heap.size 30 #[.slice (some ⟨g1,0,none⟩) (m.toNat + 1) (m.toNat + 1)]):=zH (by rw [hwx]; exact Blk.new wa _ _); clear hwx; have HXN:=zH (bt HX.out zN hb); clear HX hb c0 c1 c2 c3 c4 c5 c6 c7 c8 c9 c10 d0 d1 d2; have HX:=HXN; clear HXN; obtain ⟨c0,c1,c2,c3,c4,c5,c6,c7,c8,c9,c10⟩:=rbox_of (HALL.out _ HX.out).1; obtain ⟨d0,d1,d2⟩:=trio_of (HALL.out _ HX.out).2.1)))
        have hvx : RowE 1 encO wx (.slice (some ⟨g1,0,none⟩) (m.toNat + 1) (m.toNat + 1)) T:=by
         have:=tabT_row HTB.out (by rw [HTL.out]; have:=HRT.out.m1; rw [HMM.out] at this; unfold maxLen; omega)
         rwa [HTL.out] at this
        have hcq:=HBQ.out.cell 0
        simp only [List.getElem?_toArray,List.getElem?_cons_zero] at hcq
        have hmc:=HMO.out (by first | rfl | trivial) wx sA nl sc wa.heap.size _ T (HALL.out _ HX.out).2.2 hcq (Blk.lt HBQ.out) hvx HTL.out
        have HMC:=zH hmc
        clear hvx hcq hmc
        go_upto_region 13 with (go_at_call 68; refine HMC.out.mono ?_; rintro e wc ⟨bv,fv,rfl,hb,hbo,hfo⟩; obtain ⟨bA,bc,hbe⟩:=own_slice1 hbo; subst hbe; obtain ⟨fA,fc,hfe⟩:=own_slice1 hfo; subst hfe; have HBO:=zH hbo; have HFO:=zH hfo; have HWC:=zH hb; have hmb : MomB wc gm n xs:=(HMB.out.below HWA.out HMB.out.lt |>.below HWX.out (Nat.lt_of_lt_of_le HMB.out.lt HWA.out.size)).below hb (Nat.lt_of_lt_of_le (Nat.lt_of_lt_of_le HMB.out.lt HWA.out.size) HWX.out.size); obtain ⟨⟨u0,k0⟩,f0⟩:=hmb.room (k:=k * 4) (by omega); obtain ⟨⟨u1,k1⟩,f1⟩:=hmb.room (k:=k * 4 + 1) (by omega); obtain ⟨⟨u2,k2⟩,f2⟩:=hmb.room (k:=k * 4 + 2) (by omega); obtain ⟨⟨u3,k3⟩,f3⟩:=hmb.room (k:=k * 4 + 3) (by omega); have k8:=hmb.lt; have HMC2:=zH hmb; clear hbo hfo hmb; have HXN:=zH (bt HX.out zN hb); clear HX hb c0 c1 c2 c3 c4 c5 c6 c7 c8 c9 c10 d0 d1 d2; have HX:=HXN; clear HXN; obtain ⟨c0,c1,c2,c3,c4,c5,c6,c7,c8,c9,c10⟩:=rbox_of (HALL.out _ HX.out).1; obtain ⟨d0,d1,d2⟩:=trio_of (HALL.out _ HX.out).2.1)
        have hmb4:=HMC2.out.put (by rw [HXL.out]; exact hlt) ⟨.slice sA nl sc,holdsF C T,.slice bA (placesF C.bads T).length bc,.slice fA (fairF C T).length fc⟩
        rw [HXL.out] at hmb4
        simp only at hmb4
        have hgm0 : w.heap.size + 1 + 1 ≤ gm:=HSZ.out
        have hx4:=below_four (k:=k * 4) HX.out (by rw [HW0.out]; exact hgm0) (.slice sA nl sc) (.bool (holdsF C T)) (.slice bA (placesF C.bads T).length bc) (.slice fA (fairF C T).length fc)
        have hwc:=bt HWA.out zN (bt HWX.out zN HWC.out)
        have hog4:=own_four (k:=k * 4) (own_below HOG.out hwc) HMC2.out (by decide) (.slice sA nl sc) (.bool (holdsF C T)) (.slice bA (placesF C.bads T).length bc) (.slice fA (fairF C T).length fc)
        have hms4:=(HMS.out.below hwc).four (k:=k * 4) HMC2.out (.slice sA nl sc) (.bool (holdsF C T)) (.slice bA (placesF C.bads T).length bc) (.slice fA (fairF C T).length fc)
        have hso4:=own_four (k:=k * 4) (own_below HSO.out hwc) HMC2.out (by decide) (.slice sA nl sc) (.bool (holdsF C T)) (.slice bA (placesF C.bads T).length bc) (.slice fA (fairF C T).length fc)
        have hsxw : w.heap.size ≤ wx.heap.size:=Nat.le_trans (HALL.out _ HX.out).2.2.size (by first | exact Nat.le_refl _ | omega) |> fun _ => by
         have h1:=HWA.out.size
         have h2:=HWX.out.size
         have h3:=HMB.out.lt
         omega
        have hbo4:=own_four (k:=k * 4) (own_le HBO.out hsxw) HMC2.out (by decide) (.slice sA nl sc) (.bool (holdsF C T)) (.slice bA (placesF C.bads T).length bc) (.slice fA (fairF C T).length fc)
        have hfo4:=own_four (k:=k * 4) (own_le HFO.out hsxw) HMC2.out (by decide) (.slice sA nl sc) (.bool (holdsF C T)) (.slice bA (placesF C.bads T).length bc) (.slice fA (fairF C T).length fc)
        have htb4 : Tab (_ : World) g1 T:=Blk.far (Blk.far (Blk.far (Blk.far (Blk.below HTB.out HWC.out (Blk.lt HTB.out)) (p:=⟨gm,k * 4,none⟩) (by have:=HG1.out; have:=HMB.out.lt; simp; omega) (.slice sA nl sc)) (p:=⟨gm,k * 4 + 1,none⟩) (by have:=HG1.out; have:=HMB.out.lt; simp; omega) (.bool (holdsF C T))) (p:=⟨gm,k * 4 + 2,none⟩) (by have:=HG1.out; have:=HMB.out.lt; simp; omega) (.slice bA (placesF C.bads T).length bc)) (p:=⟨gm,k * 4 + 3,none⟩) (by have:=HG1.out; have:=HMB.out.lt; simp; omega) (.slice fA (fairF C T).length fc)
        have hbq4:=Blk.far (Blk.far (Blk.far (Blk.far (Blk.below HBQ.out HWC.out (Blk.lt HBQ.out)) (p:=⟨gm,k * 4,none⟩) (by have:=HWA.out.size; have:=HMB.out.lt; simp; omega) (.slice sA nl sc)) (p:=⟨gm,k * 4 + 1,none⟩) (by have:=HWA.out.size; have:=HMB.out.lt; simp; omega) (.bool (holdsF C T))) (p:=⟨gm,k * 4 + 2,none⟩) (by have:=HWA.out.size; have:=HMB.out.lt; simp; omega) (.slice bA (placesF C.bads T).length bc)) (p:=⟨gm,k * 4 + 3,none⟩) (by have:=HWA.out.size; have:=HMB.out.lt; simp; omega) (.slice fA (fairF C T).length fc)
        have hsz4:=size_four wc gm (k * 4) (.slice sA nl sc) (.bool (holdsF C T)) (.slice bA (placesF C.bads T).length bc) (.slice fA (fairF C T).length fc)
        obtain ⟨wd,hwd⟩ : ∃ wd,wd = ((((wc.setCell ⟨gm,k * 4,none⟩ (.slice sA nl sc)).setCell ⟨gm,k * 4 + 1,none⟩ (.bool (holdsF C T))).setCell ⟨gm,k * 4 + 2,none⟩ (.slice bA (placesF C.bads T).length bc)).setCell ⟨gm,k * 4 + 3,none⟩ (.slice fA (fairF C T).length fc)):=⟨_,rfl⟩
        rw [← hwd] at hmb4 hx4 hog4 hms4 hso4 hbo4 hfo4 htb4 hbq4 hsz4
        rw [← hwd]
        have HSW : Hid (wr.heap.size ≤ wd.heap.size ∧ wx.heap.size ≤ wd.heap.size ∧ wr.heap.size ≤ wx.heap.size):=zH (by
         have h1:=HWA.out.size
         have h2:=HWX.out.size
         have h3:=HWC.out.size
         rw [hsz4]
         exact ⟨by omega,h3,by omega⟩)
        have HMB4:=zH hmb4
        have HOG4:=zH hog4
        have HMS4:=zH hms4
        have HSO4:=zH hso4
        have HBO4:=zH hbo4
        have HFO4:=zH hfo4
        clear HX k0 k1 k2 k3 k8 f0 f1 f2 f3 c0 c1 c2 c3 c4 c5 c6 c7 c8 c9 c10 d0 d1 d2
        have HX:=zH hx4
        have hxd:=HX.out
        have HXD:=zH hxd
        obtain ⟨c0,c1,c2,c3,c4,c5,c6,c7,c8,c9,c10⟩:=rbox_of (HALL.out _ HX.out).1
        obtain ⟨d0,d1,d2⟩:=trio_of (HALL.out _ HX.out).2.1
        have hv4 : RowE 1 encO wd (.slice (some ⟨g1,0,none⟩) (m.toNat + 1) (m.toNat + 1)) T:=by
         have:=tabT_row htb4 (by rw [HTL.out]; have:=HRT.out.m1; rw [HMM.out] at this; unfold maxLen; omega)
         rwa [HTL.out] at this
        have hc4:=hbq4.cell 0
        simp only [List.getElem?_toArray,List.getElem?_cons_zero] at hc4
        have hnc:=HNX.out (by first | rfl | trivial) wd wa.heap.size _ T (HALL.out _ HX.out).2.2 hc4 (Blk.lt hbq4) hv4 HTL.out
        rw [HNL.out] at hnc
        have HNC:=zH hnc
        clear hmb4 hx4 hwc hog4 hms4 hso4 hsxw hbo4 hfo4 htb4 hbq4 hsz4 hwd hv4 hc4 hnc hxd
        go_wp2_with (go_at_call 69; refine HNC.out.mono ?_; rintro e we ⟨g2,rfl,hg2,hb,ht2⟩; have HG2:=zH hg2; have HT2:=zH ht2; have HWE:=zH hb; clear hg2 ht2; have HXN:=zH (bt HX.out zN hb); clear HX hb c0 c1 c2 c3 c4 c5 c6 c7 c8 c9 c10 d0 d1 d2; have HX:=HXN; clear HXN; obtain ⟨c0,c1,c2,c3,c4,c5,c6,c7,c8,c9,c10⟩:=rbox_of (HALL.out _ HX.out).1; obtain ⟨d0,d1,d2⟩:=trio_of (HALL.out _ HX.out).2.1)
        go_roundg (n - (k + 1))
        case measure => omega
        case rel =>
         have hall2 : ∀ y ∈ xs,∃ i m,xs[i]? = some y ∧ MomR wr w.heap.size y m:=fun y hy => by
          obtain ⟨i,hi⟩:=List.getElem?_of_mem hy
          have hil : i < (momsG C out1 t.init (t.rows.take k)).length:=by rw [← HMS.out.len]; exact (List.getElem?_eq_some_iff.1 hi).1
          exact ⟨i,_,hi,HMS.out.at_ i y _ hi (List.getElem?_eq_getElem hil)⟩
         refine ⟨k + 1,xs ++ [⟨.slice sA nl sc,holdsF C T,.slice bA (placesF C.bads T).length bc,.slice fA (fairF C T).length fc⟩],some ⟨g2,0,none⟩,nl,by omega,by go_num,rfl,rfl,HX.out,own_below HOG4.out HWE.out,HMB4.out.below HWE.out HMB4.out.lt,?_,?_,?_⟩
         · rw [HTK.out,momsG_snoc,HST.out,HT.out]
           refine (HMS4.out.snoc (x:=⟨.slice sA nl sc,holdsF C T,.slice bA (placesF C.bads T).length bc,.slice fA (fairF C T).length fc⟩) (m:=momOf C st T) ⟨?_,rfl,HBO4.out,HFO4.out⟩ (fun y hy => ⟨HAP.out y hy,fun g hg hg2 => ?_⟩)).below HWE.out
           · show wd.ownsRow _ _ _ _ st.length _
             rw [HSL.out]; exact HSO4.out
           · obtain ⟨i,mm,_,hmr⟩:=hall2 y hy
             have h1:=(hmr.b.lt g hg).2
             have h2:=(HBO.out.lt g hg2).1
             have h3:=HSW.out.2.2
             omega
         · rw [HTK.out,runS_snoc,HST.out,HT.out]
           have:=tab_ownO HT2.out (Nat.le_trans (HALL.out _ HXD.out).2.2.size HG2.out) (by rw [nextF_len,HNL.out]; have:=HRT.out.nl; rw [HNL.out] at this; unfold maxLen; omega)
           rw [nextF_len,HNL.out] at this
           exact this
         · intro y hy g hg hg2
           have hgb : g = g2:=by simp [Value.ownBlock] at hg2; omega
           have h2:=HG2.out
           rcases List.mem_append.1 hy with hy | hy
           · obtain ⟨i,mm,_,hmr⟩:=hall2 y hy
             have h1:=(hmr.s.lt g hg).2
             have h3:=HSW.out.1
             omega
           · simp at hy
             subst hy
             have h1:=(HSO4.out.lt g hg).2
             omega
      · have hke : k = n:=by omega
        subst hke
        go_wp2
        go_ret2
        have hms:=HMS.out
        rw [List.take_of_length_le (by rw [HN.out]; exact Nat.le_refl _)] at hms
        first | exact ⟨(HALL.out _ HX.out).2.2,_,rfl,fun h => absurd rfl h,fun _ => ⟨gm,xs,rfl,by have:=HSZ.out; omega,HMB.out,hms⟩⟩ | exact ⟨(HALL.out _ HX.out).2.2,_,rfl,gm,rfl,by have:=HSZ.out; omega,xs,HMB.out,hms⟩
 · have hq : (r != 0) = true:=by simpa using h0
   have HE : Hid (runE C t = r):=zH (by rw [runE_bad (by rw [HR0.out]; exact h0),HR0.out])
   have H0:=zH h0
   clear h0 HVO HMO HNX HTF
   rw [HE.out]
   go_enter Tryz.func36,Tryz.ntmps36
   go_wp2_with (go_at_call 63; refine (HORD.out _ (HALL.out _ HX.out).2.2).mono ?_; rintro e w1 ⟨hb,v1,out1,rfl,_,_⟩; have HXN:=zH (bt HX.out zN hb); clear HX hb c0 c1 c2 c3 c4 c5 c6 c7 c8 c9 c10 d0 d1 d2; have HX:=HXN; clear HXN; obtain ⟨c0,c1,c2,c3,c4,c5,c6,c7,c8,c9,c10⟩:=rbox_of (HALL.out _ HX.out).1; obtain ⟨d0,d1,d2⟩:=trio_of (HALL.out _ HX.out).2.1)
   go_ret2
   exact ⟨(HALL.out _ HX.out).2.2,_,rfl,fun _ => rfl,fun h => absurd h H0.out⟩
end Go.Proofs.YtjbglgmbnjdhcaaGreat

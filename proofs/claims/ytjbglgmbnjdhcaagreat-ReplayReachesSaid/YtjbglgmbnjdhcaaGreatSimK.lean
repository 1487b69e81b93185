import Derived.Test.YtjbglgmbnjdhcaaGreatSimE
import Derived.Test.YtjbglgmbnjdhcaaGreatClone
import Derived.Test.YtjbglgmbnjdhcaaGreatOrdW
namespace Go.Proofs.YtjbglgmbnjdhcaaGreat
open Go.RowKit

def placesG (T : List Bool) : List Int → Nat → List Int
 | [],_ => []
 | z :: r,k => if litV T z then (k : Int) :: placesG T r (k + 1) else placesG T r (k + 1)
def placesF (zs : List Int) (T : List Bool) : List Int := placesG T zs 0
theorem placesG_snoc (T : List Bool) (z : Int) : ∀ (zs : List Int) (k : Nat),placesG T (zs ++ [z]) k = placesG T zs k ++ (if litV T z then [((k + zs.length : Nat) : Int)] else [])
 | [],k => by simp [placesG]
 | y :: r,k => by
   simp only [List.cons_append,placesG,placesG_snoc T z r (k + 1),List.length_cons]
   rw [show k + 1 + r.length = k + (r.length + 1) by omega]
   split <;> simp
theorem placesG_len (T : List Bool) : ∀ (zs : List Int) (k : Nat),(placesG T zs k).length ≤ zs.length
 | [],_ => Nat.le_refl _
 | y :: r,k => by
   have:=placesG_len T r (k + 1)
   simp only [placesG]
   split <;> simp <;> omega
theorem placesF_len (zs : List Int) (T : List Bool) : (placesF zs T).length ≤ zs.length := placesG_len T zs 0
theorem places_step {zs : List Int} {k : Nat} {z : Int} (h : zs[k]? = some z) (T : List Bool) : placesF (zs.take (k + 1)) T = placesF (zs.take k) T ++ (if litV T z then [(k : Int)] else []) := by
 have hk : k < zs.length:=(List.getElem?_eq_some_iff.1 h).1
 unfold placesF
 rw [List.take_add_one,h]
 show placesG T (zs.take k ++ [z]) 0 = _
 rw [placesG_snoc]
 simp [List.length_take,Nat.min_eq_left (Nat.le_of_lt hk)]
theorem own_slice1 {w : World} {B n : Nat} {t : TypeId} {v : Value} {xs : List Value} {k : Nat} (h : w.ownsRow B t k v n xs) : ∃ A c,v = .slice A n c := by
 rcases h.2 with ⟨rfl,rfl⟩ | ⟨g,cap,cur,rfl,_⟩
 · exact ⟨_,_,rfl⟩
 · exact ⟨_,_,rfl⟩
theorem infoIS : (Tryz.prog.info? 3).map (fun i => (i.zero,i.size,i.bytes)) = some (some (.int .i64 0),1,8) := by kernel_rfl
theorem reads_oneS (w : World) (x : Value) (t : TypeId) : Reads (w.alloc (.cells #[x] t)) (w.heap.size + 1) 1 (some ⟨w.heap.size,0,none⟩) 1 [x] := reads_one w x t

set_option maxHeartbeats 4000000 in
set_option maxRecDepth 100000 in
theorem placesOf_any (w : World) (bq : Nat) (v lv : Value) (T : List Bool) (zs : List Int) (hc : w.cell? ⟨bq,0,none⟩ = some v) (hbq : bq < w.heap.size) (hv : RowE 1 encO w v T) (hl : RowE 1 encI w lv zs)
 (hT : T.length ≤ 100000) (hz : ∀ z ∈ zs,0 ≤ z ∧ z / 2 < (T.length : Int)) (hn16 : zs.length ≤ 100000) :
 Calls Tryz.prog 84 #[lv,isV bq] w fun e w' => ∃ v',e = .returned v' ∧ w'.ownsRow w.heap.size 3 1 v' (placesF zs T).length ((placesF zs T).map (Value.int .i64)) ∧ Below w.heap.size w w':=by
 have HIS : Hid (∀ (wx : World) (l : Int),Below w.heap.size w wx → 0 ≤ l → l / 2 < (T.length : Int) → Calls Tryz.prog 82 #[.int .i64 l,.pointer (some ⟨bq,0,none⟩)] wx fun e w' => e = .returned (.bool (litV T l)) ∧ w' = wx):=zH (fun wx l hx h0 h1 =>
  is_any wx bq v T l ((hx.cell (p:=⟨bq,0,none⟩) hbq).trans hc) (hv.below hx) h0 h1 (by omega))
 obtain ⟨A,c,rfl,hcc,hmx,hp⟩:=hl
 have HP:=zH hp
 have HZ:=zH hz
 have HB0:=zH (Below.refl w.heap.size w)
 obtain ⟨n,hn⟩ : ∃ n,zs.length = n:=⟨_,rfl⟩
 have HN:=zH hn
 rw [hn] at hn16 hcc
 rw [hn]
 clear hp hcc hmx hz hn hc hbq hv hT
 go_enter Tryz.func84,Tryz.ntmps84
 go_wp2
 go_loopg [5,10] n (fun j ov iv wr => ∃ k r : Nat,k ≤ n ∧ iv = .int .i64 k ∧ j = n - k ∧ (placesF (zs.take k) T).length = r ∧ r ≤ k ∧ wr.ownsRow w.heap.size 3 1 ov r ((placesF (zs.take k) T).map (Value.int .i64)) ∧ Below w.heap.size w wr)
 case atStart => exact ⟨0,0,Nat.zero_le _,rfl,rfl,rfl,Nat.le_refl _,⟨rfl,.inl ⟨rfl,rfl⟩⟩,HB0.out⟩
 case round =>
  obtain ⟨k,r,hk,rfl,hgk,hrl,hrk,hown,hbl⟩:=hrel
  subst hgk
  have HO:=zH hown
  have HB:=zH hbl
  have HRL:=zH hrl
  clear hown hbl HB0 hrl
  obtain ⟨Ao,co,hov⟩:=own_slice1 HO.out
  subst hov
  by_cases hlt : k < n
  · have hx:=List.getElem?_eq_getElem (l:=zs) (i:=k) (by rw [HN.out]; exact hlt)
    generalize zs[k]'(by rw [HN.out]; exact hlt) = x at hx
    obtain ⟨b,off,rfl,hb,hcell⟩:=HP.out k x hx
    have i0:=(HB.out.cell (p:=⟨b,off + (k * 1 + 0),none⟩) hb).trans (hcell 0 _ rfl)
    simp only [Nat.add_zero,Nat.mul_one] at i0
    have hxz:=HZ.out x (List.mem_of_getElem? hx)
    have hcall:=HIS.out wr x HB.out hxz.1 hxz.2
    have HST:=zH (places_step hx T)
    clear hcell hx hxz
    cases hlv : litV T x
    · rw [hlv] at hcall
      have HC:=zH hcall
      have HTK : Hid (placesF (zs.take (k + 1)) T = placesF (zs.take k) T):=zH (by rw [HST.out,hlv]; simp)
      clear hcall hlv HST
      go_wp2_with (go_at_call 82; refine HC.out.mono ?_; rintro e w1 ⟨rfl,rfl⟩)
      go_roundg (n - (k + 1))
      case measure => omega
      case rel => exact ⟨k + 1,r,by omega,by go_num,rfl,by rw [HTK.out]; exact HRL.out,by omega,by rw [HTK.out]; exact HO.out,HB.out⟩
    · rw [hlv] at hcall
      have HC:=zH hcall
      have HTK : Hid (placesF (zs.take (k + 1)) T = placesF (zs.take k) T ++ [(k : Int)]):=zH (by rw [HST.out,hlv]; simp)
      obtain ⟨i0',hi0,hz0,hz1,hz2⟩:=info_of2 infoIS
      have HI0:=zH (And.intro hi0 (And.intro hz0 (And.intro hz1 hz2)))
      have HR:=zH (reads_oneS wr (.int .i64 (k : Int)) 3)
      have hsz:=HB.out.size
      clear hcall hlv HST hi0 hz0 hz1 hz2
      go_wp2_with (first
       | (go_at_call 82; refine HC.out.mono ?_; rintro e w1 ⟨rfl,rfl⟩)
       | (at_builtin; refine wpList_append_any _ rfl (.tmp 18) (.tmp 20) _ rfl w.heap.size 3 i0' _ 1 8 Tryz.underlying22 HI0.out.1 HI0.out.2.1 HI0.out.2.2.1 HI0.out.2.2.2 rfl (by omega) (.slice Ao r co) r ((placesF (zs.take k) T).map (Value.int .i64)) rfl (HO.out.alloc _) (w1.heap.size + 1) (some ⟨w1.heap.size,0,none⟩) 1 1 [.int .i64 (k : Int)] rfl HR.out (by simp [Value.oneCell']) (by simp only [maxLen]; omega) (by omega) (by simp; omega) ?_; intro v3 w3 hown3 hg3 hat3; have HB3:=zH ((HB.out.alloc hsz (.cells #[.int .i64 (k : Int)] 3)).grown hg3 (by simp; omega) (fun g hg => (HO.out.lt g hg).1)); have HO3:=zH hown3; clear hown3 hg3 hat3))
      go_roundg (n - (k + 1))
      case measure => omega
      case rel => exact ⟨k + 1,r + 1,by omega,by go_num,rfl,by rw [HTK.out]; simp [HRL.out],by omega,by rw [HTK.out]; simpa using HO3.out,HB3.out⟩
  · have hke : k = n:=by omega
    subst hke
    go_wp2
    go_ret
    have:=HO.out
    have h2:=HRL.out
    rw [List.take_of_length_le (by rw [HN.out]; exact Nat.le_refl _)] at this h2
    rw [h2]
    exact ⟨_,rfl,this,HB.out⟩
open Go.RowKit

abbrev encQ (p : Int × Int) : List Value := [.int .i64 p.1,.int .i64 p.2]
theorem lenQ (p : Int × Int) : (encQ p).length = 2 := rfl
theorem infoPS : (Tryz.prog.info? 114).map (fun i => (i.zero,i.size,i.bytes)) = some (some (.agg #[.int .i64 0,.int .i64 0]),2,16) := by kernel_rfl
theorem own_cellsF {w : World} {B n k : Nat} {t : TypeId} {v : Value} {xs : List Value} (h : w.ownsRow B t k v n xs) {g : Nat} (hv : v.ownBlock = some g) : ∃ cs,Blk w g t cs := by
 rcases h.2 with ⟨rfl,_⟩ | ⟨g',cap,cur,rfl,_,hh,_⟩
 · simp [Value.ownBlock] at hv
 · have : g' = g:=by simpa [Value.ownBlock] using hv
   subst this
   exact ⟨cur,hh⟩
theorem own_other {w w' : World} {B B2 n n2 k k2 : Nat} {t t2 : TypeId} {v v2 : Value} {xs xs2 : List Value} (h : w.ownsRow B t k v n xs) (h2 : w.ownsRow B2 t2 k2 v2 n2 xs2) (hne : t2 ≠ t) (hg : w.grownBy w' v2.ownBlock) : w'.ownsRow B t k v n xs :=
 own_of_block h (fun g hv => by
  obtain ⟨cs,hb⟩:=own_cellsF h hv
  exact hg.block g hb.lt (fun e => own_blk_ne h2 hb hne e.symm))
theorem own_setQ {w : World} {B n k : Nat} {t : TypeId} {v : Value} {xs : List Value} (h : w.ownsRow B t k v n xs) (p : Addr) (u : Value) (hne : ∀ g,v.ownBlock = some g → g ≠ p.block) : (w.setCell p u).ownsRow B t k v n xs :=
 own_of_block h (fun g hv => Below.heap_setCell _ _ _ _ (hne g hv))
theorem reads_twoQ (w : World) (x y : Value) (t : TypeId) : Reads (w.alloc (.cells #[x,y] t)) (w.heap.size + 1) 2 (some ⟨w.heap.size,0,none⟩) 1 [x,y] := by
 refine ⟨rfl,fun _ => ⟨_,rfl,by simp,fun j u hu => ?_⟩⟩
 rw [add_none,Nat.zero_add,(Blk.new w t #[x,y]).cell]
 simpa using hu

set_option maxHeartbeats 4000000 in
set_option maxRecDepth 100000 in
theorem spots_any (w1 w : World) (bi bf bq : Nat) (v lv : Value) (T : List Bool) (zs : List Int) (a : Int) (fv : Value) (fs : List (Int × Int)) (_h1 : w1.heap.size ≤ bf) (hw : Below w1.heap.size w1 w)
 (hbf : Blk w bf 60 #[fv]) (_hbi : bi < bf) (hci : w.cell? ⟨bi,0,none⟩ = some (isV bq)) (hc : w1.cell? ⟨bq,0,none⟩ = some v) (hbq : bq < w1.heap.size) (hv : RowE 1 encO w1 v T) (hl : RowE 1 encI w1 lv zs)
 (hT : T.length ≤ 100000) (hz : ∀ z ∈ zs,0 ≤ z ∧ z / 2 < (T.length : Int)) (hn16 : zs.length ≤ 100000) (hown : w.ownsRow (bf + 1) 114 2 fv fs.length (fs.flatMap encQ)) (hfl : fs.length ≤ 100000) :
 Calls Tryz.prog 83 #[.int .i64 a,lv,.pointer (some ⟨bi,0,none⟩),.pointer (some ⟨bf,0,none⟩)] w fun e w' => e = .returned (.tuple #[]) ∧ Below bf w w' ∧
  ∃ fv',Blk w' bf 60 #[fv'] ∧ w'.ownsRow (bf + 1) 114 2 fv' (fs ++ (placesF zs T).map (fun p => (a,p))).length ((fs ++ (placesF zs T).map (fun p => (a,p))).flatMap encQ):=by
 have hpl:=placesOf_any w bq v lv T zs ((hw.cell (p:=⟨bq,0,none⟩) hbq).trans hc) (Nat.lt_of_lt_of_le hbq hw.size) (hv.below hw) (hl.below hw) hT hz hn16
 have hps:=Nat.le_trans (placesF_len zs T) hn16
 have hbfl:=hbf.lt
 generalize placesF zs T = ps at *
 have HPL:=zH hpl
 have HBF:=zH hbf
 have HOWN:=zH hown
 have HB0:=zH (Below.refl bf w)
 obtain ⟨lA,ln,lc,hle⟩ : ∃ A n c,lv = .slice A n c:=by obtain ⟨A,c,e,_⟩:=hl; exact ⟨A,_,c,e⟩
 subst hle
 clear hpl hbf hown hw hc hbq hv hl hT hz hn16
 go_enter Tryz.func83,Tryz.ntmps83
 go_wp2_with (go_at_call 84; refine HPL.out.mono ?_; rintro e w2 ⟨pv,rfl,hpo,hpb⟩; have HPO:=zH hpo; have HPB:=zH hpb; obtain ⟨pA,pc,hpe⟩:=own_slice1 hpo; subst hpe; clear hpo hpb)
 go_loopg [12] ps.length (fun j iv wr => ∃ (k : Nat) (fv : Value),k ≤ ps.length ∧ iv = .int .i64 k ∧ j = ps.length - k ∧ Below bf w wr ∧ w.heap.size ≤ wr.heap.size ∧ Blk wr bf 60 #[fv] ∧ wr.ownsRow w.heap.size 3 1 (.slice pA ps.length pc) ps.length (ps.map (Value.int .i64)) ∧
  wr.ownsRow (bf + 1) 114 2 fv (fs.length + k) ((fs ++ (ps.take k).map (fun p => (a,p))).flatMap encQ))
 case atStart => exact ⟨0,fv,Nat.zero_le _,rfl,rfl,HPB.out.mono (Nat.le_of_lt hbfl),HPB.out.size,HBF.out.below HPB.out hbfl,HPO.out,by simpa using own_below HOWN.out HPB.out⟩
 case round =>
  obtain ⟨k,fw,hk,rfl,hgk,hbl,hsz,hblk,hpo,hfo⟩:=hrel
  subst hgk
  have HBL:=zH hbl
  have HBK:=zH hblk
  have HPW:=zH hpo
  have HFO:=zH hfo
  clear hbl hpo hfo
  by_cases hlt : k < ps.length
  · obtain ⟨x,hx⟩ : ∃ x,ps[k]? = some x:=⟨_,List.getElem?_eq_getElem hlt⟩
    obtain ⟨gp,cp,hpv,_,_,_,hplt,hpc,_,_⟩:=own_cells HPW.out (by omega)
    have hpA : pA = some ⟨gp,0,none⟩:=by injection hpv
    subst hpA
    have i0:=hpc k (by simpa using hlt)
    have hxe : ps.getD k 0 = x:=by simp [List.getD,hx]
    rw [hxe] at i0
    have x0:=hblk.cell 0
    have hfz:=hblk.frozen 0
    have hbfw:=hblk.lt
    simp only [List.getElem?_toArray,List.getElem?_cons_zero] at x0
    obtain ⟨fA,fc,hfe⟩:=own_slice1 HFO.out
    subst hfe
    obtain ⟨i0',hi0,hz0,hz1,hz2⟩:=info_of2 infoPS
    have HI0:=zH (And.intro hi0 (And.intro hz0 (And.intro hz1 hz2)))
    have HR:=zH (reads_twoQ wr (.int .i64 a) (.int .i64 x) 114)
    have HTK : Hid ((fs ++ (ps.take (k + 1)).map (fun p => (a,p))).flatMap encQ = (fs ++ (ps.take k).map (fun p => (a,p))).flatMap encQ ++ [.int .i64 a,.int .i64 x]):=zH (by rw [List.take_add_one,hx]; simp [List.flatMap_append])
    clear hi0 hz0 hz1 hz2 hx hxe hpc hpv hblk
    go_wp2_with (at_builtin; refine wpList_append_any _ rfl (.tmp 16) (.tmp 20) _ rfl (bf + 1) 114 i0' _ 2 16 Tryz.underlying60 HI0.out.1 HI0.out.2.1 HI0.out.2.2.1 HI0.out.2.2.2 rfl (by omega) (.slice fA (fs.length + k) fc) (fs.length + k) ((fs ++ (ps.take k).map (fun p => (a,p))).flatMap encQ) rfl (HFO.out.alloc _) (wr.heap.size + 1) (some ⟨wr.heap.size,0,none⟩) 1 1 [.int .i64 a,.int .i64 x] rfl HR.out (by simp [Value.oneCell']) (by simp only [maxLen]; omega) (by omega) (by simp; omega) ?_; intro v3 w3 hown3 hg3 hat3; obtain ⟨gA,gc,hge⟩:=own_slice1 hown3; subst hge; have hb3 : Below bf w w3:=(HBL.out.alloc (by omega) (.cells #[.int .i64 a,.int .i64 x] 114)).grown hg3 (by simp; omega) (fun g hg => by have:=(HFO.out.lt g hg).1; omega); have hbk3 : Blk w3 bf 60 #[.slice fA (fs.length + k) fc]:=(HBK.out.alloc _).grown hg3 (fun e => by have:=(HFO.out.lt bf e.symm).1; omega); have hpo3:=own_other (HPW.out.alloc (.cells #[.int .i64 a,.int .i64 x] 114)) (HFO.out.alloc (.cells #[.int .i64 a,.int .i64 x] 114)) (by decide) hg3; have hsz3:=hg3.size; have HB3:=zH hb3; have HK3:=zH hbk3; have HP3:=zH hpo3; have HO3:=zH hown3; have k0:=hbk3.cell 0; have k1:=hbk3.frozen 0; have k2:=hbk3.lt; simp only [List.getElem?_toArray,List.getElem?_cons_zero] at k0; clear hown3 hg3 hat3 hb3 hbk3 hpo3)
    go_roundg (ps.length - (k + 1))
    case measure => omega
    case rel =>
     refine ⟨k + 1,.slice gA (fs.length + k + 1) gc,by omega,by go_num,rfl,HB3.out.setCell zN _,?_,?_,?_,?_⟩
     · simp at hsz3
       simp
       omega
     · simpa using Blk.set_ HK3.out 0 (.slice gA (fs.length + k + 1) gc)
     · exact own_setQ HP3.out _ _ (fun g hg => by have:=(HP3.out.lt g hg).1; simp; omega)
     · rw [HTK.out]
       exact own_setQ HO3.out _ _ (fun g hg => by have:=(HO3.out.lt g hg).1; simp; omega)
  · have hke : k = ps.length:=by omega
    subst hke
    go_wp2
    go_end0
    have:=HFO.out
    rw [List.take_of_length_le zN] at this
    exact ⟨rfl,HBL.out,fw,HBK.out,by simpa using this⟩
open Go.RowKit

structure Mom where
 st : List Bool
 holds : Bool
 bads : List Int
 fair : List (Int × Int)
def fairG (T : List Bool) : List (List Int) → Nat → List (Int × Int)
 | [],_ => []
 | zs :: r,k => (placesF zs T).map (fun p => ((k : Int),p)) ++ fairG T r (k + 1)
def fairF (C : Circ) (T : List Bool) : List (Int × Int) := fairG T C.justice 0 ++ (placesF C.fairness T).map (fun p => ((-1 : Int),p))
def momOf (C : Circ) (st T : List Bool) : Mom := ⟨st,holdsF C T,placesF C.bads T,fairF C T⟩
theorem fairG_snoc (T : List Bool) (z : List Int) : ∀ (zs : List (List Int)) (k : Nat),fairG T (zs ++ [z]) k = fairG T zs k ++ (placesF z T).map (fun p => (((k + zs.length : Nat) : Int),p))
 | [],k => by simp [fairG]
 | y :: r,k => by
   simp only [List.cons_append,fairG,fairG_snoc T z r (k + 1),List.length_cons,List.append_assoc]
   rw [show k + 1 + r.length = k + (r.length + 1) by omega]
theorem fair_step {J : List (List Int)} {k : Nat} {zs : List Int} (h : J[k]? = some zs) (T : List Bool) : fairG T (J.take (k + 1)) 0 = fairG T (J.take k) 0 ++ (placesF zs T).map (fun p => ((k : Int),p)) := by
 have hk : k < J.length:=(List.getElem?_eq_some_iff.1 h).1
 rw [List.take_add_one,h]
 show fairG T (J.take k ++ [zs]) 0 = _
 rw [fairG_snoc]
 simp [List.length_take,Nat.min_eq_left (Nat.le_of_lt hk)]
def sumL (J : List (List Int)) : Nat := (J.map List.length).sum
theorem fairG_len (T : List Bool) : ∀ (J : List (List Int)) (k : Nat),(fairG T J k).length ≤ sumL J
 | [],_ => Nat.zero_le _
 | z :: r,k => by
   have h1:=fairG_len T r (k + 1)
   have h2:=placesF_len z T
   simp only [fairG,sumL,List.length_append,List.length_map,List.map_cons,List.sum_cons] at *
   omega
theorem sumL_mem : ∀ {J : List (List Int)} {z : List Int},z ∈ J → z.length ≤ sumL J
 | y :: r,z,h => by
   simp only [sumL,List.map_cons,List.sum_cons]
   rcases List.mem_cons.1 h with rfl | h
   · omega
   · have:=sumL_mem h
     unfold sumL at this
     omega
theorem sumL_take (J : List (List Int)) : ∀ k,sumL (J.take k) ≤ sumL J := by
 induction J with
 | nil => intro k; simp [sumL]
 | cons y r ih =>
   intro k
   cases k with
   | zero => simp [sumL]
   | succ k =>
     have:=ih k
     simp only [sumL,List.take_succ_cons,List.map_cons,List.sum_cons] at *
     omega

theorem blk_four {w : World} {g b : Nat} {t : TypeId} {cs : Array Value} {x0 x1 x2 x3 : Value} (h : Blk w g t cs) (hne : g ≠ b) : Blk ((((w.setCell ⟨b,0,none⟩ x0).setCell ⟨b,1,none⟩ x1).setCell ⟨b,2,none⟩ x2).setCell ⟨b,3,none⟩ x3) g t cs :=
 Blk.far (Blk.far (Blk.far (Blk.far h (by simpa using hne) _) (by simpa using hne) _) (by simpa using hne) _) (by simpa using hne) _
structure MomS (w0 wr : World) (bf : Nat) (fv : Value) (fs : List (Int × Int)) : Prop where
 below : Below w0.heap.size w0 wr
 fair : Blk wr bf 60 #[fv]
 own : wr.ownsRow (bf + 1) 114 2 fv fs.length (fs.flatMap encQ)

set_option maxHeartbeats 8000000 in
set_option maxRecDepth 100000 in
theorem momentOf_any (w : World) (V : CV) (C : Circ) (sA : Option Addr) (sn sc : Nat) (bq : Nat) (v : Value) (T : List Bool) (h : C.In w V) (hrt : Right C) (hJ : sumL C.justice ≤ 16384) (hc : w.cell? ⟨bq,0,none⟩ = some v) (hbq : bq < w.heap.size) (hv : RowE 1 encO w v T) (hT : T.length = C.max.toNat + 1) :
 Calls Tryz.prog 68 #[V.val C.max,.slice sA sn sc,isV bq] w fun e w' => ∃ bv fv,e = .returned (.agg #[.slice sA sn sc,.bool (holdsF C T),bv,fv]) ∧ Below w.heap.size w w' ∧
  w'.ownsRow w.heap.size 3 1 bv (placesF C.bads T).length ((placesF C.bads T).map (Value.int .i64)) ∧ w'.ownsRow w.heap.size 114 2 fv (fairF C T).length ((fairF C T).flatMap encQ):=by
 have hm0:=hrt.m0
 have hm1:=hrt.m1
 have hTl : T.length ≤ 100000:=by omega
 have HLIT : Hid (∀ z,LitOk C z → 0 ≤ z ∧ z / 2 < (T.length : Int)):=zH (fun z hz => by unfold LitOk at hz; rw [hT]; omega)
 have HHB:=zH (fun (wx : World) (hb : Below w.heap.size w wx) => holdsBy_any wx V C bq v T (h.below hb) hrt ((hb.cell (p:=⟨bq,0,none⟩) hbq).trans hc) (Nat.lt_of_lt_of_le hbq hb.size) (hv.below hb) hT)
 have HPL:=zH (fun (wx : World) (hb : Below w.heap.size w wx) => placesOf_any wx bq v V.b T C.bads ((hb.cell (p:=⟨bq,0,none⟩) hbq).trans hc) (Nat.lt_of_lt_of_le hbq hb.size) (hv.below hb) (h.below hb).b hTl (fun z hz => HLIT.out z (hrt.b z hz)) (by have:=hrt.nb; omega))
 have HSP:=zH (fun (wx : World) (bi bf : Nat) (lv : Value) (zs : List Int) (a : Int) (fv : Value) (fs : List (Int × Int)) (h1 : w.heap.size ≤ bf) (hb : Below w.heap.size w wx) (hbf : Blk wx bf 60 #[fv]) (hbi : bi < bf) (hci : wx.cell? ⟨bi,0,none⟩ = some (isV bq)) (hl : RowE 1 encI w lv zs) (hz : ∀ z ∈ zs,LitOk C z) (hn : zs.length ≤ 100000) (hown : wx.ownsRow (bf + 1) 114 2 fv fs.length (fs.flatMap encQ)) (hfl : fs.length ≤ 100000) =>
  spots_any w wx bi bf bq v lv T zs a fv fs h1 hb hbf hbi hci hc hbq hv hl hTl (fun z hz2 => HLIT.out z (hz z hz2)) hn hown hfl)
 obtain ⟨AJ,cJ,eJ,hjm,hjr⟩:=h.j.at_
 have hnj:=hrt.nj
 have HJL : Hid (∀ zs ∈ C.justice,(∀ z ∈ zs,LitOk C z) ∧ zs.length ≤ 16384):=zH (fun zs hz => ⟨hrt.j zs hz,by have:=sumL_mem hz; omega⟩)
 have HFL : Hid (∀ k,(fairG T (C.justice.take k) 0).length ≤ 16384):=zH (fun k => by have h1:=fairG_len T (C.justice.take k) 0; have h2:=sumL_take C.justice k; omega)
 have HFN : Hid ((∀ z ∈ C.fairness,LitOk C z) ∧ C.fairness.length ≤ 16384):=zH ⟨hrt.f,hrt.nf⟩
 have HF:=zH h.f
 obtain ⟨Vi,Vl,Vo,Vb,Vc,Vj,Vf,Va,Vs,Vt⟩:=V
 simp only at eJ
 subst eJ
 obtain ⟨bA,bn,bc,hbe⟩ : ∃ A n c,Vb = .slice A n c:=by obtain ⟨A,c,e,_⟩:=h.b; exact ⟨A,_,c,e⟩
 obtain ⟨fA,fn,fc,hfe⟩ : ∃ A n c,Vf = .slice A n c:=by obtain ⟨A,c,e,_⟩:=h.f; exact ⟨A,_,c,e⟩
 subst hbe hfe
 obtain ⟨W0,hW0⟩ : ∃ W0,W0 = (((w.alloc (.cells #[.int .i64 C.max,Vi,Vl,Vo,.slice bA bn bc,Vc,.slice AJ C.justice.length cJ,.slice fA fn fc,Va,Vs,Vt] 29)).alloc (.cells #[isV bq] 108)).alloc (.cells #[.slice none 0 0,.bool false,.slice none 0 0,.slice none 0 0] 62)).alloc (.cells #[.slice none 0 0] 60):=⟨_,rfl⟩
 have HS0 : Hid (MomS w W0 (w.heap.size + 1 + 1 + 1) (.slice none 0 0) []):=by
  rw [hW0]
  refine zH ⟨((((Below.refl w.heap.size w).alloc zN _).alloc (by simp) _).alloc (by simp; omega) _).alloc (by simp; omega) _,?_,⟨rfl,.inl ⟨rfl,rfl⟩⟩⟩
  have:=Blk.new (((w.alloc (.cells #[.int .i64 C.max,Vi,Vl,Vo,.slice bA bn bc,Vc,.slice AJ C.justice.length cJ,.slice fA fn fc,Va,Vs,Vt] 29)).alloc (.cells #[isV bq] 108)).alloc (.cells #[.slice none 0 0,.bool false,.slice none 0 0,.slice none 0 0] 62)) 60 #[.slice none 0 0]
  simpa using this
 have HALL : Hid (∀ wz,Below (w.heap.size + 1 + 1 + 1) W0 wz → Blk wz w.heap.size 29 #[.int .i64 C.max,Vi,Vl,Vo,.slice bA bn bc,Vc,.slice AJ C.justice.length cJ,.slice fA fn fc,Va,Vs,Vt] ∧ Blk wz (w.heap.size + 1) 108 #[isV bq] ∧ Blk wz (w.heap.size + 1 + 1) 62 #[.slice none 0 0,.bool false,.slice none 0 0,.slice none 0 0] ∧ Below w.heap.size w wz):=zH (fun wz hb => by
  refine ⟨?_,?_,?_,HS0.out.below.trans (hb.mono (by omega))⟩
  · refine Blk.below ?_ hb (by omega)
    rw [hW0]
    exact (((Blk.new w _ _).alloc _).alloc _).alloc _
  · refine Blk.below ?_ hb (by omega)
    rw [hW0]
    have:=((Blk.new (w.alloc (.cells #[.int .i64 C.max,Vi,Vl,Vo,.slice bA bn bc,Vc,.slice AJ C.justice.length cJ,.slice fA fn fc,Va,Vs,Vt] 29)) 108 #[isV bq]).alloc (.cells #[.slice none 0 0,.bool false,.slice none 0 0,.slice none 0 0] 62)).alloc (.cells #[.slice none 0 0] 60)
    simpa using this
  · refine Blk.below ?_ hb (by omega)
    rw [hW0]
    have:=(Blk.new ((w.alloc (.cells #[.int .i64 C.max,Vi,Vl,Vo,.slice bA bn bc,Vc,.slice AJ C.justice.length cJ,.slice fA fn fc,Va,Vs,Vt] 29)).alloc (.cells #[isV bq] 108)) 62 #[.slice none 0 0,.bool false,.slice none 0 0,.slice none 0 0]).alloc (.cells #[.slice none 0 0] 60)
    simpa using this)
 have HW0:=zH hW0
 have HJR:=zH hjr
 have HFF : Hid (fairF C T = fairG T C.justice 0 ++ (placesF C.fairness T).map (fun p => ((-1 : Int),p))):=zH rfl
 have HFS:=zH (fun (k : Nat) (zs : List Int) (hz : C.justice[k]? = some zs) => fair_step hz T)
 obtain ⟨m,hmm⟩ : ∃ m,C.max = m:=⟨_,rfl⟩
 obtain ⟨n,hn⟩ : ∃ n,C.justice.length = n:=⟨_,rfl⟩
 rw [hmm] at HALL HW0 HHB
 rw [hn] at HALL HW0 HHB HPL hnj
 rw [hmm,hn]
 have HN:=zH hn
 clear h hrt hc hbq hv hT hJ hm0 hm1 hTl hjm hjr hW0 hmm hn HLIT
 go_enter Tryz.func68,Tryz.ntmps68
 go_wp2
 go_loopg [15] n (fun j iv wr => ∃ (k : Nat) (fv : Value),k ≤ n ∧ iv = .int .i64 k ∧ j = n - k ∧ MomS w wr (w.heap.size + 1 + 1 + 1) fv (fairG T (C.justice.take k) 0) ∧ Below (w.heap.size + 1 + 1 + 1) W0 wr)
 case atStart => exact ⟨0,_,Nat.zero_le _,rfl,rfl,(by have:=HS0.out; rw [HW0.out] at this; exact this),(by rw [HW0.out]; exact Below.refl _ _)⟩
 case round =>
  obtain ⟨k,fv,hk,rfl,hgk,hms,hbw⟩:=hrel
  subst hgk
  have HM:=zH hms
  have HBW:=zH hbw
  clear hms hbw
  obtain ⟨hbx,hbi,hbm,hb0⟩:=HALL.out _ HBW.out
  have x6:=hbx.cell 6
  have x7:=hbx.cell 7
  have xi:=hbi.cell 0
  simp only [List.getElem?_toArray,List.getElem?_cons_zero,List.getElem?_cons_succ] at x6 x7 xi
  clear hbx hbi hbm
  have HB0:=zH hb0
  clear hb0
  by_cases hlt : k < n
  · obtain ⟨zs,hz⟩ : ∃ zs,C.justice[k]? = some zs:=⟨_,List.getElem?_eq_getElem (by rw [HN.out]; exact hlt)⟩
    obtain ⟨b,off,u,e,hb,hu,hru⟩:=HJR.out k zs hz
    subst e
    have hcu:=(HB0.out.cell (p:=⟨b,off + k,none⟩) hb).trans hu
    have hst:=HFS.out k zs hz
    obtain ⟨hz1,hz2⟩:=HJL.out zs (List.mem_of_getElem? hz)
    obtain ⟨uA,un,uc,hue⟩ : ∃ A n c,u = .slice A n c:=by obtain ⟨A,c,e,_⟩:=hru; exact ⟨A,_,c,e⟩
    subst hue
    have hcall:=HSP.out wr (w.heap.size + 1) (w.heap.size + 1 + 1 + 1) (.slice uA un uc) zs (k : Int) fv (fairG T (C.justice.take k) 0) (by omega) HB0.out HM.out.fair (by omega) xi hru hz1 (by omega) HM.out.own (by have:=HFL.out k; omega)
    rw [← hst] at hcall
    have HC:=zH hcall
    clear hz hu hru hst hz1 hz2 hcall
    go_wp2_with (go_at_call 83; refine HC.out.mono ?_; rintro e w5 ⟨rfl,hb5,fv5,hf5,ho5⟩; have HB5:=zH hb5; have HF5:=zH hf5; have HO5:=zH ho5; clear hb5 hf5 ho5)
    go_roundg (n - (k + 1))
    case measure => omega
    case rel => exact ⟨k + 1,fv5,by omega,by go_num,rfl,⟨HB0.out.trans (HB5.out.mono (by omega)),HF5.out,HO5.out⟩,HBW.out.trans HB5.out⟩
  · have hke : k = n:=by omega
    subst hke
    have hms:=HM.out
    rw [List.take_of_length_le (by rw [HN.out]; exact Nat.le_refl _)] at hms
    have hfl:=HFL.out k
    rw [List.take_of_length_le (by rw [HN.out]; exact Nat.le_refl _)] at hfl
    have hcall:=HSP.out wr (w.heap.size + 1) (w.heap.size + 1 + 1 + 1) (.slice fA fn fc) C.fairness (-1) fv (fairG T C.justice 0) (by omega) HB0.out hms.fair (by omega) xi HF.out HFN.out.1 (by have:=HFN.out.2; omega) hms.own (by omega)
    rw [← HFF.out] at hcall
    have HC:=zH hcall
    clear hms hfl hcall hlt hk HM
    go_upto_region 9 with (go_at_call 83; refine HC.out.mono ?_; rintro e w5 ⟨rfl,hb5,fv5,hf5,ho5⟩; have HX:=zH (HBW.out.trans hb5); have HF5:=zH hf5; have HO5:=zH ho5; obtain ⟨gA,gc,hge⟩:=own_slice1 ho5; subst hge; clear hb5 hf5 ho5)
    have HS9 : Hid (∀ wz,Below w5.heap.size w5 wz → wz.cell? ⟨w.heap.size,0,none⟩ = some (.int .i64 m) ∧ wz.cell? ⟨w.heap.size,1,none⟩ = some (Vi) ∧ wz.cell? ⟨w.heap.size,2,none⟩ = some (Vl) ∧ wz.cell? ⟨w.heap.size,3,none⟩ = some (Vo) ∧ wz.cell? ⟨w.heap.size,4,none⟩ = some (.slice bA bn bc) ∧ wz.cell? ⟨w.heap.size,5,none⟩ = some (Vc) ∧ wz.cell? ⟨w.heap.size,6,none⟩ = some (.slice AJ k cJ) ∧ wz.cell? ⟨w.heap.size,7,none⟩ = some (.slice fA fn fc) ∧ wz.cell? ⟨w.heap.size,8,none⟩ = some (Va) ∧ wz.cell? ⟨w.heap.size,9,none⟩ = some (Vs) ∧ wz.cell? ⟨w.heap.size,10,none⟩ = some (Vt) ∧ wz.cell? ⟨w.heap.size + 1,0,none⟩ = some (isV bq) ∧ wz.cell? ⟨w.heap.size + 1 + 1 + 1,0,none⟩ = some (.slice gA (fairF C T).length gc)):=zH (fun wz hb => by
     obtain ⟨e1,e2,_,_⟩:=HALL.out _ HX.out
     have e1:=e1.below hb e1.lt
     have e2:=e2.below hb e2.lt
     have e3:=HF5.out.below hb HF5.out.lt
     exact ⟨e1.cell 0,e1.cell 1,e1.cell 2,e1.cell 3,e1.cell 4,e1.cell 5,e1.cell 6,e1.cell 7,e1.cell 8,e1.cell 9,e1.cell 10,e2.cell 0,e3.cell 0⟩)
    have HK9 : Hid (∀ (wz : World) (z0 z1 z2 z3 : Value),Below w5.heap.size w5 wz → ((((wz.setCell ⟨w.heap.size + 1 + 1,0,none⟩ z0).setCell ⟨w.heap.size + 1 + 1,1,none⟩ z1).setCell ⟨w.heap.size + 1 + 1,2,none⟩ z2).setCell ⟨w.heap.size + 1 + 1,3,none⟩ z3).cell? ⟨w.heap.size,0,none⟩ = some (.int .i64 m) ∧ ((((wz.setCell ⟨w.heap.size + 1 + 1,0,none⟩ z0).setCell ⟨w.heap.size + 1 + 1,1,none⟩ z1).setCell ⟨w.heap.size + 1 + 1,2,none⟩ z2).setCell ⟨w.heap.size + 1 + 1,3,none⟩ z3).cell? ⟨w.heap.size,1,none⟩ = some (Vi) ∧ ((((wz.setCell ⟨w.heap.size + 1 + 1,0,none⟩ z0).setCell ⟨w.heap.size + 1 + 1,1,none⟩ z1).setCell ⟨w.heap.size + 1 + 1,2,none⟩ z2).setCell ⟨w.heap.size + 1 + 1,3,none⟩ z3).cell? ⟨w.heap.size,2,none⟩ = some (Vl) ∧ ((((wz.setCell ⟨w.heap.size + 1 + 1,0,none⟩ z0).setCell ⟨w.heap.size + 1 + 1,1,none⟩ z1).setCell ⟨w.heap.size + 1 + 1,2,none⟩ z2).setCell ⟨w.heap.size + 1 + 1,3,none⟩ z3).cell? ⟨w.heap.size,3,none⟩ = some (Vo) ∧ ((((wz.setCell ⟨w.heap.size + 1 + 1,0,none⟩ z0).setCell ⟨w.heap.size + 1 + 1,1,none⟩ z1).setCell ⟨w.heap.size + 1 + 1,2,none⟩ z2).setCell ⟨w.heap.size + 1 + 1,3,none⟩ z3).cell? ⟨w.heap.size,4,none⟩ = some (.slice bA bn bc) ∧ ((((wz.setCell ⟨w.heap.size + 1 + 1,0,none⟩ z0).setCell ⟨w.heap.size + 1 + 1,1,none⟩ z1).setCell ⟨w.heap.size + 1 + 1,2,none⟩ z2).setCell ⟨w.heap.size + 1 + 1,3,none⟩ z3).cell? ⟨w.heap.size,5,none⟩ = some (Vc) ∧ ((((wz.setCell ⟨w.heap.size + 1 + 1,0,none⟩ z0).setCell ⟨w.heap.size + 1 + 1,1,none⟩ z1).setCell ⟨w.heap.size + 1 + 1,2,none⟩ z2).setCell ⟨w.heap.size + 1 + 1,3,none⟩ z3).cell? ⟨w.heap.size,6,none⟩ = some (.slice AJ k cJ) ∧ ((((wz.setCell ⟨w.heap.size + 1 + 1,0,none⟩ z0).setCell ⟨w.heap.size + 1 + 1,1,none⟩ z1).setCell ⟨w.heap.size + 1 + 1,2,none⟩ z2).setCell ⟨w.heap.size + 1 + 1,3,none⟩ z3).cell? ⟨w.heap.size,7,none⟩ = some (.slice fA fn fc) ∧ ((((wz.setCell ⟨w.heap.size + 1 + 1,0,none⟩ z0).setCell ⟨w.heap.size + 1 + 1,1,none⟩ z1).setCell ⟨w.heap.size + 1 + 1,2,none⟩ z2).setCell ⟨w.heap.size + 1 + 1,3,none⟩ z3).cell? ⟨w.heap.size,8,none⟩ = some (Va) ∧ ((((wz.setCell ⟨w.heap.size + 1 + 1,0,none⟩ z0).setCell ⟨w.heap.size + 1 + 1,1,none⟩ z1).setCell ⟨w.heap.size + 1 + 1,2,none⟩ z2).setCell ⟨w.heap.size + 1 + 1,3,none⟩ z3).cell? ⟨w.heap.size,9,none⟩ = some (Vs) ∧ ((((wz.setCell ⟨w.heap.size + 1 + 1,0,none⟩ z0).setCell ⟨w.heap.size + 1 + 1,1,none⟩ z1).setCell ⟨w.heap.size + 1 + 1,2,none⟩ z2).setCell ⟨w.heap.size + 1 + 1,3,none⟩ z3).cell? ⟨w.heap.size,10,none⟩ = some (Vt) ∧ ((((wz.setCell ⟨w.heap.size + 1 + 1,0,none⟩ z0).setCell ⟨w.heap.size + 1 + 1,1,none⟩ z1).setCell ⟨w.heap.size + 1 + 1,2,none⟩ z2).setCell ⟨w.heap.size + 1 + 1,3,none⟩ z3).cell? ⟨w.heap.size + 1,0,none⟩ = some (isV bq) ∧ ((((wz.setCell ⟨w.heap.size + 1 + 1,0,none⟩ z0).setCell ⟨w.heap.size + 1 + 1,1,none⟩ z1).setCell ⟨w.heap.size + 1 + 1,2,none⟩ z2).setCell ⟨w.heap.size + 1 + 1,3,none⟩ z3).cell? ⟨w.heap.size + 1 + 1 + 1,0,none⟩ = some (.slice gA (fairF C T).length gc)):=zH (fun wz z0 z1 z2 z3 hb => by
     obtain ⟨e1,e2,_,_⟩:=HALL.out _ HX.out
     have e1:=blk_four (b:=w.heap.size + 1 + 1) (x0:=z0) (x1:=z1) (x2:=z2) (x3:=z3) (e1.below hb e1.lt) (by omega)
     have e2:=blk_four (b:=w.heap.size + 1 + 1) (x0:=z0) (x1:=z1) (x2:=z2) (x3:=z3) (e2.below hb e2.lt) (by omega)
     have e3:=blk_four (b:=w.heap.size + 1 + 1) (x0:=z0) (x1:=z1) (x2:=z2) (x3:=z3) (HF5.out.below hb HF5.out.lt) (by omega)
     exact ⟨e1.cell 0,e1.cell 1,e1.cell 2,e1.cell 3,e1.cell 4,e1.cell 5,e1.cell 6,e1.cell 7,e1.cell 8,e1.cell 9,e1.cell 10,e2.cell 0,e3.cell 0⟩)
    have HM9 : Hid (∀ wz,Below w5.heap.size w5 wz → Blk wz (w.heap.size + 1 + 1) 62 #[.slice none 0 0,.bool false,.slice none 0 0,.slice none 0 0]):=zH (fun wz hb => by
     obtain ⟨_,_,e3,_⟩:=HALL.out _ HX.out
     exact e3.below hb e3.lt)
    have HB9 : Hid (∀ wz,Below w5.heap.size w5 wz → Below w.heap.size w wz):=zH (fun wz hb => (HALL.out _ HX.out).2.2.2.trans (hb.mono (HALL.out _ HX.out).2.2.2.size))
    have HY : Hid (Below w5.heap.size w5 w5.drew):=zH (Below.refl _ _).drew
    have q0:=(HM9.out _ HY.out).cell 0
    have q1:=(HM9.out _ HY.out).cell 1
    have q2:=(HM9.out _ HY.out).cell 2
    have q3:=(HM9.out _ HY.out).cell 3
    have q4:=(HM9.out _ HY.out).frozen 0
    have q5:=(HM9.out _ HY.out).frozen 1
    have q6:=(HM9.out _ HY.out).frozen 2
    have q7:=(HM9.out _ HY.out).frozen 3
    have q8:=(HM9.out _ HY.out).lt
    simp only [List.getElem?_toArray,List.getElem?_cons_zero,List.getElem?_cons_succ] at q0 q1 q2 q3
    clear x6 x7 xi HBW HW0 HALL HS0 HSP HC HB0
    obtain ⟨ff,hff⟩ : ∃ ff,fairF C T = ff:=⟨_,rfl⟩
    rw [hff] at HS9 HK9 HO5 HF5
    have HFE:=zH hff
    clear hff
    (go_region_held3 (fun w' => w'.cell? ⟨w.heap.size,0,none⟩ = some (.int .i64 m) ∧ w'.cell? ⟨w.heap.size,1,none⟩ = some (Vi) ∧ w'.cell? ⟨w.heap.size,2,none⟩ = some (Vl) ∧ w'.cell? ⟨w.heap.size,3,none⟩ = some (Vo) ∧ w'.cell? ⟨w.heap.size,4,none⟩ = some (.slice bA bn bc) ∧ w'.cell? ⟨w.heap.size,5,none⟩ = some (Vc) ∧ w'.cell? ⟨w.heap.size,6,none⟩ = some (.slice AJ k cJ) ∧ w'.cell? ⟨w.heap.size,7,none⟩ = some (.slice fA fn fc) ∧ w'.cell? ⟨w.heap.size,8,none⟩ = some (Va) ∧ w'.cell? ⟨w.heap.size,9,none⟩ = some (Vs) ∧ w'.cell? ⟨w.heap.size,10,none⟩ = some (Vt) ∧ w'.cell? ⟨w.heap.size + 1,0,none⟩ = some (isV bq) ∧ w'.cell? ⟨w.heap.size + 1 + 1 + 1,0,none⟩ = some (.slice gA ff.length gc)) (first | exact HS9.out _ HY.out | exact HK9.out _ _ _ _ _ HY.out | go_keep)
      (first
        | (go_at_call 85; refine (HHB.out _ (HB9.out _ HY.out)).mono ?_; rintro e wh ⟨rfl,hbh⟩; have HHH:=zH hbh; have HYN:=zH (bt HY.out zN hbh); clear HY hbh q0 q1 q2 q3 q4 q5 q6 q7 q8; have HY:=HYN; clear HYN; have q0:=(HM9.out _ HY.out).cell 0; have q1:=(HM9.out _ HY.out).cell 1; have q2:=(HM9.out _ HY.out).cell 2; have q3:=(HM9.out _ HY.out).cell 3; have q4:=(HM9.out _ HY.out).frozen 0; have q5:=(HM9.out _ HY.out).frozen 1; have q6:=(HM9.out _ HY.out).frozen 2; have q7:=(HM9.out _ HY.out).frozen 3; have q8:=(HM9.out _ HY.out).lt; simp only [List.getElem?_toArray,List.getElem?_cons_zero,List.getElem?_cons_succ] at q0 q1 q2 q3)
        | (go_at_call 84; refine (HPL.out _ (HB9.out _ HY.out)).mono ?_; rintro e wp ⟨pv,rfl,hpo,hpb⟩; obtain ⟨pA,pc,hpe⟩:=own_slice1 hpo; subst hpe; have HPO:=zH (own_le hpo (HB9.out _ HY.out).size); have HPB:=zH hpb; clear hpo; have HYN:=zH (bt HY.out zN hpb); clear HY hpb q0 q1 q2 q3 q4 q5 q6 q7 q8; have HY:=HYN; clear HYN; have q0:=(HM9.out _ HY.out).cell 0; have q1:=(HM9.out _ HY.out).cell 1; have q2:=(HM9.out _ HY.out).cell 2; have q3:=(HM9.out _ HY.out).cell 3; have q4:=(HM9.out _ HY.out).frozen 0; have q5:=(HM9.out _ HY.out).frozen 1; have q6:=(HM9.out _ HY.out).frozen 2; have q7:=(HM9.out _ HY.out).frozen 3; have q8:=(HM9.out _ HY.out).lt; simp only [List.getElem?_toArray,List.getElem?_cons_zero,List.getElem?_cons_succ] at q0 q1 q2 q3)))
    have hbf:=((((HB9.out _ HY.out).setCell (p:=⟨w.heap.size + 1 + 1,0,none⟩) (by simp; omega) (.slice sA sn sc)).setCell (p:=⟨w.heap.size + 1 + 1,1,none⟩) (by simp; omega) (.bool (holdsF C T))).setCell (p:=⟨w.heap.size + 1 + 1,2,none⟩) (by simp; omega) (.slice pA (placesF C.bads T).length pc)).setCell (p:=⟨w.heap.size + 1 + 1,3,none⟩) (by simp; omega) (.slice gA ff.length gc)
    have hmb:=Blk.set_ (Blk.set_ (Blk.set_ (Blk.set_ (HM9.out _ HY.out) 0 (.slice sA sn sc)) 1 (.bool (holdsF C T))) 2 (.slice pA (placesF C.bads T).length pc)) 3 (.slice gA ff.length gc)
    have hfar : ∀ (k n size : Nat) (t : TypeId) (v : Value) (xs : List Value) (B : Nat),wp.ownsRow B t size v n xs → t ≠ 62 → ((((wp.setCell ⟨w.heap.size + 1 + 1,0,none⟩ (.slice sA sn sc)).setCell ⟨w.heap.size + 1 + 1,1,none⟩ (.bool (holdsF C T))).setCell ⟨w.heap.size + 1 + 1,2,none⟩ (.slice pA (placesF C.bads T).length pc)).setCell ⟨w.heap.size + 1 + 1,3,none⟩ (.slice gA ff.length gc)).ownsRow B t size v n xs:=fun k n size t v xs B ho hne =>
     own_of_block ho (fun g hg => by
      have hgb : g ≠ w.heap.size + 1 + 1:=fun e => own_blk_ne ho (HM9.out _ HY.out) hne (by rw [hg,e])
      rw [Below.heap_setCell _ _ _ _ (by simpa using hgb),Below.heap_setCell _ _ _ _ (by simpa using hgb),Below.heap_setCell _ _ _ _ (by simpa using hgb),Below.heap_setCell _ _ _ _ (by simpa using hgb)])
    have hpo:=hfar 0 _ _ _ _ _ _ HPO.out (by decide)
    have hfo:=hfar 0 _ _ _ _ _ _ (own_le (own_below HO5.out HY.out) (show w.heap.size ≤ _ by omega)) (by decide)
    obtain ⟨X,hX⟩ : ∃ X,X = ((((wp.setCell ⟨w.heap.size + 1 + 1,0,none⟩ (.slice sA sn sc)).setCell ⟨w.heap.size + 1 + 1,1,none⟩ (.bool (holdsF C T))).setCell ⟨w.heap.size + 1 + 1,2,none⟩ (.slice pA (placesF C.bads T).length pc)).setCell ⟨w.heap.size + 1 + 1,3,none⟩ (.slice gA ff.length gc)):=⟨_,rfl⟩
    rw [← hX] at hbf hmb hpo hfo
    rw [← hX]
    have z0 : X.cell? ⟨w.heap.size + 1 + 1,0,none⟩ = some (.slice sA sn sc):=by rw [hmb.cell]; rfl
    have z1 : X.cell? ⟨w.heap.size + 1 + 1,1,none⟩ = some (.bool (holdsF C T)):=by rw [hmb.cell]; rfl
    have z2 : X.cell? ⟨w.heap.size + 1 + 1,2,none⟩ = some (.slice pA (placesF C.bads T).length pc):=by rw [hmb.cell]; rfl
    have z3 : X.cell? ⟨w.heap.size + 1 + 1,3,none⟩ = some (.slice gA ff.length gc):=by rw [hmb.cell]; rfl
    have HFIN:=zH (And.intro hbf (And.intro hpo hfo))
    clear hX hfar hbf hmb hpo hfo q0 q1 q2 q3 q4 q5 q6 q7 q8
    go_wp2
    refine bodyPost_ret (v:=.agg #[.slice sA sn sc,.bool (holdsF C T),.slice pA (placesF C.bads T).length pc,.slice gA ff.length gc]) (by simp [results,Tryz.results68,go_sem,z0,z1,z2,z3]) rfl ?_
    rw [HFE.out]
    exact ⟨_,_,rfl,HFIN.out.1,HFIN.out.2.1,HFIN.out.2.2⟩
end Go.Proofs.YtjbglgmbnjdhcaaGreat

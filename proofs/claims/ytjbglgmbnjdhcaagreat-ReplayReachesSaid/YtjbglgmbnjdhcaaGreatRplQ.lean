import Derived.Test.YtjbglgmbnjdhcaaGreatSimN
import Derived.Test.YtjbglgmbnjdhcaaGreatSimG
import Derived.Test.YtjbglgmbnjdhcaaGreatSetP
namespace Go.Proofs.YtjbglgmbnjdhcaaGreat
open Go.RowKit

def firstB {α : Type} (p : α → Bool) : List α → Nat → Int
 | [],_ => -1
 | x :: r,k => if p x = true then (k : Int) else firstB p r (k + 1)
theorem firstB_none {α : Type} {p : α → Bool} : ∀ {l : List α} {k : Nat},(∀ y ∈ l,p y = false) → firstB p l k = -1
 | [],_,_ => rfl
 | x :: r,k,h => by
   unfold firstB
   rw [if_neg (by rw [h x (by simp)]; simp)]
   exact firstB_none (fun y hy => h y (by simp [hy]))
theorem firstB_hit {α : Type} {p : α → Bool} : ∀ {l : List α} {k i : Nat} {x : α},(∀ y ∈ l.take i,p y = false) → l[i]? = some x → p x = true → firstB p l k = ((k + i : Nat) : Int)
 | [],_,i,x,_,h,_ => by simp at h
 | y :: r,k,0,x,_,h,hp => by
   simp at h
   subst h
   unfold firstB
   rw [if_pos hp]; simp
 | y :: r,k,i + 1,x,h,hx,hp => by
   unfold firstB
   rw [if_neg (by rw [h y (by simp)]; simp)]
   rw [firstB_hit (i:=i) (fun z hz => h z (by simp [hz])) (by simpa using hx) hp]
   congr 1; omega
theorem firstB_all {α : Type} {p : α → Bool} : ∀ {l : List α} {k : Nat},firstB p l k = -1 → ∀ y ∈ l,p y = false
 | [],_,_,y,hy => by simp at hy
 | x :: r,k,h,y,hy => by
   unfold firstB at h
   by_cases hp : p x = true
   · rw [if_pos hp] at h; omega
   · rw [if_neg hp] at h
     rcases List.mem_cons.1 hy with rfl | hy
     · simpa using hp
     · exact firstB_all h y hy

/-! A circuit that watches some literals. -/
def watchC (C : Circ) (ls fs : List Int) : Circ := { max := C.max,inputs := C.inputs,latches := C.latches,outputs := [],bads := [],constraints := C.constraints,justice := [ls],fairness := fs,ands := C.ands,symbols := [],comments := [] }
theorem watch_uses {C : Circ} (h : (checkR C).2 = 0) : UsesL C := by
 obtain ⟨_,h2,h3,_⟩:=check_parts h
 have hm:=(right_of h).m0
 exact used_of hm (defd_of hm h2) h3
theorem watch_def (C : Circ) (ls fs : List Int) (tb : List Bool) : defR (watchC C ls fs) tb = defR C tb := by
 unfold defR defI defL defA
 simp only [watchC]
 rfl
theorem watch_gates (C : Circ) (ls fs : List Int) : usesC (watchC C ls fs) = usesC C := by
 unfold usesC gateOf
 simp only [watchC]
theorem sum_one (ls : List Int) (nl : ls.length ≤ 16384) : sumW [ls] = (ls.length : Int) := by
 have h1 : sumL [ls] = ls.length:=by simp [sumL]
 have h2:=sum_fold [ls] 0 (by rw [h1]; omega)
 rw [h1,Nat.zero_add] at h2
 exact h2
theorem watch_sizes {C : Circ} {ls fs : List Int} (hrt : Right C) (nl : ls.length ≤ 16384) (nf : fs.length ≤ 16384) : sizesE (watchC C ls fs) = 0 := by
 have m0:=hrt.m0
 have m1:=hrt.m1
 have a1:=hrt.ni
 have a2:=hrt.nl
 have a3:=hrt.nc
 have a4:=hrt.na
 have hw:=sum_one ls nl
 clear hrt
 refine sizesE_ok (C:=watchC C ls fs) (by simp only [watchC]; omega) (fun x hx => ?_)
 simp only [sizesL,watchC,hw,List.mem_cons,List.not_mem_nil,or_false,List.length_nil,List.length_cons] at hx
 rcases hx with rfl | rfl | rfl | rfl | rfl | rfl | rfl | rfl | rfl | rfl | rfl <;> first | omega | (simp; done) | (simp; omega)
theorem watch_defs (C : Circ) (ls fs : List Int) : defsL (watchC C ls fs) = defsL C := by unfold defsL; simp only [watchC]
theorem watch_defd {C : Circ} {ls fs : List Int} (hd : Defd C) : Defd (watchC C ls fs) :=
 ⟨fun l hl => hd.two l (by rwa [watch_defs] at hl),by rw [watch_defs]; exact hd.nd,fun v => by
   have h1:=hd.tab v
   rw [watch_def,watch_defs]
   simpa only [watchC] using h1⟩
theorem watch_use {C : Circ} {ls fs : List Int} {l : Int} (h : UseL C l) : UseL (watchC C ls fs) l := by
 unfold UseL at h ⊢
 rw [watch_defs]
 simpa only [watchC] using h
theorem watch_used {C : Circ} {ls fs : List Int} (hu : UsesL C) (hl : ∀ l ∈ ls,UseL C l) (hf : ∀ l ∈ fs,UseL C l) : UsesL (watchC C ls fs) :=
 ⟨fun z hz => watch_use (hu.l z hz),fun l hl => by simp [watchC] at hl,fun l hl => by simp [watchC] at hl,fun l hl => watch_use (hu.c l hl),fun zs hz l hl' => by
   simp [watchC] at hz
   subst hz
   exact watch_use (hl l hl'),fun l hl => watch_use (hf l hl),fun z hz => ⟨watch_use (hu.a z hz).1,watch_use (hu.a z hz).2⟩⟩
theorem check_conv {C : Circ} (h1 : sizesE C = 0) (h2 : (defR C (tab0 C.max.toNat)).1.2 = 0) (h3 : (usedR C (defR C (tab0 C.max.toNat)).2).2 = 0) (h4 : firstF (usesC C) = -1) (h5 : symR C = (0,0)) (h6 : commR C = (0,0)) : (checkR C).2 = 0 := by
 unfold checkR
 rw [if_neg (fun h => h h1),if_neg (fun h => h h2),if_neg (fun h => h h3),if_neg (fun h => h h4),h5,h6,if_neg (fun h => h rfl)]
theorem watch_max (C : Circ) (ls fs : List Int) : (watchC C ls fs).max = C.max := by simp only [watchC]
theorem watch_syms (C : Circ) (ls fs : List Int) : symR (watchC C ls fs) = (0,0) := by
 unfold symR
 generalize hz : (watchC C ls fs).symbols = z
 have : z = []:=by rw [← hz]; simp only [watchC]
 subst this
 rfl
theorem watch_comms (C : Circ) (ls fs : List Int) : commR (watchC C ls fs) = (0,0) := by
 unfold commR
 simp only [watchC]
 rfl
theorem watch_check {C : Circ} {ls fs : List Int} (h : (checkR C).2 = 0) (hl : ∀ l ∈ ls,UseL C l) (hf : ∀ l ∈ fs,UseL C l) (nl : ls.length ≤ 16384) (nf : fs.length ≤ 16384) : (checkR (watchC C ls fs)).2 = 0 := by
 obtain ⟨_,h2,_,h4,_,_⟩:=check_parts h
 have hm:=(right_of h).m0
 refine check_conv (watch_sizes (right_of h) nl nf) ?_ (used_conv (by rw [watch_max]; exact hm) (watch_defd (defd_of hm h2)) (watch_used (watch_uses h) hl hf)) ?_ (watch_syms C ls fs) (watch_comms C ls fs)
 · rw [watch_def,watch_max]; exact h2
 · rw [watch_gates]; exact h4
theorem watch_ord {C : Circ} {ls fs O : List Int} (h : IsOrd C O) : IsOrd (watchC C ls fs) O := ⟨h.g,h.l⟩
theorem watch_ok {C : Circ} (ok : C.Ok) {ls fs : List Int} (hl : ∀ l ∈ ls,I64 l) (hf : ∀ l ∈ fs,I64 l) : (watchC C ls fs).Ok :=
 ⟨ok.max,ok.i,ok.l,fun l hl => by simp [watchC] at hl,fun l hl => by simp [watchC] at hl,ok.c,fun zs hz l hl' => by
   simp [watchC] at hz
   subst hz
   exact hl l hl',hf,ok.a,fun z hz => by simp [watchC] at hz,fun z hz => by simp [watchC] at hz⟩
theorem watch_room {C : Circ} (h : (checkR C).2 = 0) {ls fs : List Int} (nl : ls.length ≤ 16384) (nf : fs.length ≤ 16384) : (watchC C ls fs).Room := by
 have hrt:=right_of h
 have a1:=hrt.ni
 have a2:=hrt.nl
 have a3:=hrt.nc
 have a4:=hrt.na
 refine ⟨?_,?_,?_,?_,?_,?_,?_,?_,?_,?_,?_⟩ <;> simp [watchC] <;> omega

/-! The values of all variables, step by step. -/
def valsG (C : Circ) (O : List Int) : List Bool → List (List Bool) → List (List Bool)
 | _,[] => []
 | st,r :: rest => valF C O st r :: valsG C O (nextF C (valF C O st r)) rest
theorem valsG_len (C : Circ) (O : List Int) : ∀ (rows : List (List Bool)) (st : List Bool),(valsG C O st rows).length = rows.length
 | [],_ => rfl
 | _ :: rest,_ => by
   show (valsG C O _ rest).length + 1 = _
   rw [valsG_len C O rest]; rfl
theorem momsG_watch (C : Circ) (O ls fs : List Int) : ∀ (rows : List (List Bool)) (st : List Bool) (k : Nat),(momsG (watchC C ls fs) O st rows)[k]? = ((valsG C O st rows)[k]?).map fun T => (⟨runS C O st (rows.take k),holdsF C T,[],(placesF ls T).map (fun p => ((0 : Int),p)) ++ (placesF fs T).map (fun p => ((-1 : Int),p))⟩ : Mom)
 | [],_,k => by simp [momsG,valsG]
 | r :: rest,st,0 => by
   show some (momOf (watchC C ls fs) st (valF C O st r)) = some _
   congr 1
   show (⟨st,_,_,fairF (watchC C ls fs) _⟩ : Mom) = _
   congr 1
   show (((placesF ls _).map _ ++ []) ++ _) = _
   rw [List.append_nil]
   rfl
 | r :: rest,st,k + 1 => by
   show (momsG (watchC C ls fs) O _ rest)[k]? = ((valsG C O _ rest)[k]?).map _
   exact momsG_watch C O ls fs rest _ k

/-! What came. -/
def cameS (zs : List Int) (Ts : List (List Bool)) : List Bool := zs.map fun l => Ts.any fun T => litV T l
theorem cameS_len (zs : List Int) (Ts : List (List Bool)) : (cameS zs Ts).length = zs.length := by simp [cameS]
theorem cameS_nil (zs : List Int) : cameS zs [] = List.replicate zs.length false := by
 unfold cameS
 simp only [List.any_nil]
 exact List.map_const' ..
def posOf (n : Nat) (s : Int × Int) : Int := if s.1 = -1 then s.2 + (n : Int) else s.2
def seeF (n : Nat) (sp : List (Int × Int)) (L : List Bool) : List Bool := sp.foldl (fun L s => L.set (posOf n s).toNat true) L
theorem seeF_len (n : Nat) : ∀ (sp : List (Int × Int)) (L : List Bool),(seeF n sp L).length = L.length
 | [],_ => rfl
 | s :: r,L => by
   show (seeF n r (L.set _ true)).length = _
   rw [seeF_len n r]; simp
theorem seeF_snoc (n : Nat) (sp : List (Int × Int)) (s : Int × Int) (L : List Bool) : seeF n (sp ++ [s]) L = (seeF n sp L).set (posOf n s).toNat true := by simp [seeF,List.foldl_append]
theorem seeF_app (n : Nat) (a b : List (Int × Int)) (L : List Bool) : seeF n (a ++ b) L = seeF n b (seeF n a L) := by simp [seeF,List.foldl_append]
theorem see_places (n off : Nat) (c : Int) (T : List Bool) (hc : ∀ p : Nat,(posOf n (c,(p : Int))).toNat = off + p) : ∀ (zs : List Int) (k : Nat) (L : List Bool) (j : Nat),off + k + zs.length ≤ L.length →
 (seeF n ((placesG T zs k).map (fun p => (c,p))) L)[j]? = (L[j]?).map fun b => b || (decide (off + k ≤ j) && ((zs[j - (off + k)]?).map (litV T)).getD false)
 | [],k,L,j,_ => by
   show L[j]? = _
   simp
 | z :: r,k,L,j,hl => by
   simp only [List.length_cons] at hl
   unfold placesG
   by_cases hz : litV T z = true
   · rw [if_pos hz]
     show (seeF n ((placesG T r (k + 1)).map _) (L.set (posOf n (c,((k : Nat) : Int))).toNat true))[j]? = _
     rw [see_places n off c T hc r (k + 1) _ j (by simp; omega),hc k,List.getElem?_set]
     by_cases hj : off + k = j
     · subst hj
       have hk : off + k < L.length:=by omega
       simp [hk,hz]
     · rw [if_neg hj]
       by_cases hlt : off + k ≤ j
       · have e1 : off + (k + 1) ≤ j:=by omega
         have e2 : j - (off + k) = (j - (off + (k + 1))) + 1:=by omega
         simp [hlt,e1,e2]
       · have e1 : ¬ off + (k + 1) ≤ j:=by omega
         simp [hlt,e1]
   · rw [if_neg hz,see_places n off c T hc r (k + 1) _ j (by omega)]
     by_cases hj : off + k = j
     · subst hj
       have e1 : ¬ off + (k + 1) ≤ off + k:=by omega
       simp [hz,e1]
     · by_cases hlt : off + k ≤ j
       · have e1 : off + (k + 1) ≤ j:=by omega
         have e2 : j - (off + k) = (j - (off + (k + 1))) + 1:=by omega
         simp [hlt,e1,e2]
       · have e1 : ¬ off + (k + 1) ≤ j:=by omega
         simp [hlt,e1]
theorem see_step (ls fs : List Int) (T : List Bool) (Ts : List (List Bool)) : seeF ls.length ((placesF ls T).map (fun p => ((0 : Int),p)) ++ (placesF fs T).map (fun p => ((-1 : Int),p))) (cameS (ls ++ fs) Ts) = cameS (ls ++ fs) (Ts ++ [T]) := by
 refine List.ext_getElem? fun j => ?_
 have hl1 : (cameS (ls ++ fs) Ts).length = ls.length + fs.length:=by rw [cameS_len]; simp
 rw [seeF_app]
 unfold placesF
 rw [see_places ls.length ls.length (-1) T (fun p => by unfold posOf; rw [if_pos rfl]; omega) fs 0 _ j (by rw [seeF_len,hl1]; omega)]
 rw [see_places ls.length 0 0 T (fun p => by unfold posOf; rw [if_neg (by simp)]; omega) ls 0 _ j (by rw [hl1]; omega)]
 unfold cameS
 simp only [List.getElem?_map,Option.map_map,List.any_append,List.any_cons,List.any_nil,Bool.or_false,Nat.add_zero,Nat.zero_le,decide_true,Bool.true_and,Nat.sub_zero]
 by_cases hj : j < ls.length
 · rw [List.getElem?_append_left hj]
   have e1 : ¬ ls.length ≤ j:=by omega
   simp only [e1,decide_false,Bool.false_and,Bool.or_false,List.getElem?_eq_getElem hj,Option.map_some,Option.getD_some,Function.comp_apply]
 · have e1 : ls.length ≤ j:=by omega
   rw [List.getElem?_append_right e1]
   have e2 : ls[j]? = none:=List.getElem?_eq_none e1
   simp only [e1,e2,decide_true,Bool.true_and,Option.map_none,Option.getD_none,Bool.or_false]
   cases h : fs[j - ls.length]? with
   | none => simp
   | some l => simp
theorem seeF_pos {n m : Nat} {ls fs : List Int} (hn : ls.length = n) (hm : fs.length = m) (T : List Bool) : ∀ s ∈ (placesF ls T).map (fun p => ((0 : Int),p)) ++ (placesF fs T).map (fun p => ((-1 : Int),p)),(s.1 = 0 ∧ 0 ≤ s.2 ∧ s.2 < (n : Int)) ∨ (s.1 = -1 ∧ 0 ≤ s.2 ∧ s.2 < (m : Int)) := by
 have key : ∀ (zs : List Int) (k : Nat),∀ p ∈ placesG T zs k,(k : Int) ≤ p ∧ p < ((k + zs.length : Nat) : Int):=by
  intro zs
  induction zs with
  | nil => intro k p hp; simp [placesG] at hp
  | cons z r ih =>
    intro k p hp
    unfold placesG at hp
    have h2 : ∀ p ∈ placesG T r (k + 1),(k : Int) ≤ p ∧ p < ((k + (z :: r).length : Nat) : Int):=fun p hp => by
     have:=ih (k + 1) p hp
     simp only [List.length_cons]
     omega
    split at hp
    · rcases List.mem_cons.1 hp with rfl | hp
      · simp only [List.length_cons]; omega
      · exact h2 p hp
    · exact h2 p hp
 intro s hs
 rcases List.mem_append.1 hs with hs | hs
 · obtain ⟨p,hp,rfl⟩:=List.mem_map.1 hs
   have:=key ls 0 p hp
   left
   refine ⟨rfl,?_,?_⟩ <;> simp only <;> omega
 · obtain ⟨p,hp,rfl⟩:=List.mem_map.1 hs
   have:=key fs 0 p hp
   right
   refine ⟨rfl,?_,?_⟩ <;> simp only <;> omega

/-! What is answered. -/
def wrongF (C : Circ) (st : List Bool) : Int := firstB (fun p => !startP p) (C.latches.zip st) 0
def brokF (C : Circ) (Ts : List (List Bool)) : Int := firstB (fun T => !holdsF C T) Ts 0
def valsT (C : Circ) (O : List Int) (t : Tr) : List (List Bool) := valsG C O t.init t.rows
def walkR (C : Circ) (O : List Int) (t : Tr) : Int × Int :=
 if fitsB C t = false then (0,4) else if wrongF C t.init ≠ -1 then (wrongF C t.init,134) else if brokF C (valsT C O t) ≠ -1 then (brokF C (valsT C O t),130) else (0,0)
def loopless (t : Tr) : Tr := { t with loop := -1 }
def badR (C : Circ) (O : List Int) (i : Int) (t : Tr) : Int × Int :=
 if (checkR C).2 ≠ 0 then (0,(checkR C).2) else if i < 0 ∨ (C.bads.length : Int) ≤ i then (0,5) else
 if (walkR C O (loopless t)).2 ≠ 0 then walkR C O (loopless t) else
 if cameS [C.bads.getD i.toNat 0] ((valsT C O t).drop (t.rows.length - 1)) = [true] then ((t.rows.length : Int) - 1,0) else ((t.rows.length : Int) - 1,131)
def closesB (C : Circ) (O : List Int) (t : Tr) : Bool := decide (t.loop ≠ -1) && decide (runS C O t.init t.rows = runS C O t.init (t.rows.take t.loop.toNat))
def mustOf (C : Circ) (j : Int) : List Int := C.justice.getD j.toNat [] ++ C.fairness
def missF (L : List Bool) : Int := firstB (fun b => !b) L 0
def justR (C : Circ) (O : List Int) (j : Int) (t : Tr) : Int × Int :=
 if (checkR C).2 ≠ 0 then (0,(checkR C).2) else if j < 0 ∨ (C.justice.length : Int) ≤ j then (0,5) else
 if (walkR C O t).2 ≠ 0 then walkR C O t else
 if closesB C O t = false then ((t.rows.length : Int) - 1,132) else
 if missF (cameS (mustOf C j) ((valsT C O t).drop t.loop.toNat)) ≠ -1 then (missF (cameS (mustOf C j) ((valsT C O t).drop t.loop.toNat)),133) else (t.loop,0)
def truesG : List Bool → Nat → List Int
 | [],_ => []
 | b :: r,k => if b = true then (k : Int) :: truesG r (k + 1) else truesG r (k + 1)
theorem truesG_snoc (b : Bool) : ∀ (L : List Bool) (k : Nat),truesG (L ++ [b]) k = truesG L k ++ (if b = true then [((k + L.length : Nat) : Int)] else [])
 | [],k => by simp [truesG]
 | y :: r,k => by
   simp only [List.cons_append,truesG,truesG_snoc b r (k + 1),List.length_cons]
   rw [show k + 1 + r.length = k + (r.length + 1) by omega]
   split <;> simp
def reachE (C : Circ) (O : List Int) (t : Tr) : Int := if (checkR C).2 ≠ 0 then (checkR C).2 else (walkR C O t).2
def reachL (C : Circ) (O : List Int) (t : Tr) : List Int := if reachE C O t = 0 then truesG (cameS C.bads (valsT C O t)) 0 else []
open Go.RowKit

theorem walk_ok {C : Circ} {O : List Int} {t : Tr} (h : (walkR C O t).2 = 0) : Fits C t ∧ wrongF C t.init = -1 ∧ ∀ T ∈ valsT C O t,holdsF C T = true := by
 unfold walkR at h
 by_cases h1 : fitsB C t = false
 · rw [if_pos h1] at h; cases h
 · rw [if_neg h1] at h
   by_cases h2 : wrongF C t.init ≠ -1
   · rw [if_pos h2] at h; cases h
   · rw [if_neg h2] at h
     by_cases h3 : brokF C (valsT C O t) ≠ -1
     · rw [if_pos h3] at h; cases h
     · refine ⟨fits_of (by simpa using h1),Decidable.not_not.1 h2,fun T hT => ?_⟩
       have:=firstB_all (Decidable.not_not.1 h3 : brokF C (valsT C O t) = -1) T hT
       simpa using this
/-! A lasso, unrolled once more. -/
end Go.Proofs.YtjbglgmbnjdhcaaGreat

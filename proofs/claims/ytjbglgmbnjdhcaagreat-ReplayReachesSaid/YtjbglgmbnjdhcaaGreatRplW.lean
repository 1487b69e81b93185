import Derived.Test.YtjbglgmbnjdhcaaGreatRplD
namespace Go.Proofs.YtjbglgmbnjdhcaaGreat
open Go.RowKit

def exR : Circ := { max := 1,inputs := [],latches := [(2,3,0)],outputs := [],bads := [2],constraints := [],justice := [[2]],fairness := [],ands := [],symbols := [],comments := [] }
def exRV (a b c : Nat) : CV := ⟨.slice none 0 0,.slice (some ⟨a,0,none⟩) 1 1,.slice none 0 0,.slice (some ⟨b,0,none⟩) 1 1,.slice none 0 0,.slice (some ⟨c,0,none⟩) 1 1,.slice none 0 0,.slice none 0 0,.slice none 0 0,.slice none 0 0⟩
def exR1 : Tr := ⟨[false],[[],[]],-1⟩
def exR2 : Tr := ⟨[false],[[]],-1⟩
def exR3 : Tr := ⟨[false],[[],[]],0⟩
theorem rowe_nilA {E : Type} {k : Nat} {enc : E → List Value} {w : World} {A : Option Addr} : RowE k enc w (.slice A 0 0) ([] : List E) := RowE.nil w A 0 (by simp [maxLen])
theorem blk_roweR {E : Type} {k : Nat} {enc : E → List Value} {w : World} {g : Nat} {t : TypeId} {zs : List E} (hk : ∀ z,(enc z).length = k) (h : Blk w g t (zs.flatMap enc).toArray) (hm : zs.length ≤ maxLen) : RowE k enc w (.slice (some ⟨g,0,none⟩) zs.length zs.length) zs :=
 ⟨_,_,rfl,Nat.le_refl _,hm,fun i z hz => ⟨g,0,rfl,h.lt,fun j u hu => by
   have hj : j < k:=by rw [← hk z]; exact (List.getElem?_eq_some_iff.1 hu).1
   rw [Nat.zero_add,h.cell,List.getElem?_toArray,flat_get hk zs i z hz j hj]; exact hu⟩⟩
theorem exR_in {w : World} {a b c d : Nat} (h1 : Blk w a 46 #[.int .i64 2,.int .i64 3,.int .i64 0]) (h2 : Blk w b 3 #[.int .i64 2]) (h3 : Blk w c 22 #[.slice (some ⟨d,0,none⟩) 1 1]) (h4 : Blk w d 3 #[.int .i64 2]) : exR.In w (exRV a b c) :=
 ⟨rowe_nilR,blk_roweR (zs:=([(2,3,0)] : List Tri)) lenT h1 (by simp [maxLen]),rowe_nilR,blk_roweR (zs:=([2] : List Int)) lenI h2 (by simp [maxLen]),rowe_nilR,⟨[.slice (some ⟨d,0,none⟩) 1 1],blk_roweR (zs:=([.slice (some ⟨d,0,none⟩) 1 1] : List Value)) lenV h3 (by simp [maxLen]),rfl,fun i u zs hu hz => by
   match i,hu,hz with
   | 0,hu,hz => simp [exR] at hu hz; subst hu hz; exact blk_roweR (zs:=([2] : List Int)) lenI h4 (by simp [maxLen])
   | n + 1,hu,_ => simp at hu⟩,rowe_nilR,rowe_nilR,rowe_nilR,rowe_nilR⟩
theorem exR_ok : exR.Ok := by
 refine ⟨?_,?_,?_,?_,?_,?_,?_,?_,?_,?_,?_⟩ <;> simp [exR,I64,I64T]
theorem exR_room : exR.Room := by
 refine ⟨?_,?_,?_,?_,?_,?_,?_,?_,?_,?_,?_⟩ <;> simp [exR]
theorem exR_check : checkR exR = (0,0) := by decide +kernel
theorem exR_ord {O : List Int} (h : IsOrd exR O) : O = [] := List.eq_nil_of_length_eq_zero h.l
theorem exR_b1 : badR exR [] 0 exR1 = (1,0) := by decide +kernel
theorem exR_b2 : badR exR [] 0 exR2 = (0,131) := by decide +kernel
theorem exR_j3 : justR exR [] 0 exR3 = (0,0) := by decide +kernel
theorem two_rows (X : World) : let Y := (((X.alloc (.cells #[.bool false] 4)).alloc (.cells #[] 4)).alloc (.cells #[] 4)).alloc (.cells #[.slice (some ⟨X.heap.size + 1,0,none⟩) 0 0,.slice (some ⟨X.heap.size + 1 + 1,0,none⟩) 0 0] 30)
 Below X.heap.size X Y ∧ RowE 1 encO Y (.slice (some ⟨X.heap.size,0,none⟩) 1 1) [false] ∧ ListsO Y (.slice (some ⟨X.heap.size + 1 + 1 + 1,0,none⟩) 2 2) [[],[]]:=by
 intro Y
 have h1 : Blk Y X.heap.size 4 #[.bool false]:=(((Blk.new X _ _).alloc _).alloc _).alloc _
 have h2 : Blk Y (X.heap.size + 1 + 1 + 1) 30 #[.slice (some ⟨X.heap.size + 1,0,none⟩) 0 0,.slice (some ⟨X.heap.size + 1 + 1,0,none⟩) 0 0]:=by
  have h9:=Blk.new (((X.alloc (.cells #[.bool false] 4)).alloc (.cells #[] 4)).alloc (.cells #[] 4)) 30 #[.slice (some ⟨X.heap.size + 1,0,none⟩) 0 0,.slice (some ⟨X.heap.size + 1 + 1,0,none⟩) 0 0]
  rwa [show (((X.alloc (.cells #[.bool false] 4)).alloc (.cells #[] 4)).alloc (.cells #[] 4)).heap.size = X.heap.size + 1 + 1 + 1 by simp] at h9
 refine ⟨((((Below.refl X.heap.size X).alloc zN _).alloc (by simp) _).alloc (by simp; omega) _).alloc (by simp; omega) _,blk_roweR (zs:=([false] : List Bool)) lenO h1 (by simp [maxLen]),⟨[.slice (some ⟨X.heap.size + 1,0,none⟩) 0 0,.slice (some ⟨X.heap.size + 1 + 1,0,none⟩) 0 0],blk_roweR (zs:=([.slice (some ⟨X.heap.size + 1,0,none⟩) 0 0,.slice (some ⟨X.heap.size + 1 + 1,0,none⟩) 0 0] : List Value)) lenV h2 (by simp [maxLen]),rfl,fun i u zs hu hz => ?_⟩⟩
 match i,hu,hz with
 | 0,hu,hz => simp at hu hz; subst hu hz; exact rowe_nilA
 | 1,hu,hz => simp at hu hz; subst hu hz; exact rowe_nilA
 | n + 2,hu,_ => simp at hu
theorem one_rows (X : World) : let Y := ((X.alloc (.cells #[.bool false] 4)).alloc (.cells #[] 4)).alloc (.cells #[.slice (some ⟨X.heap.size + 1,0,none⟩) 0 0] 30)
 Below X.heap.size X Y ∧ RowE 1 encO Y (.slice (some ⟨X.heap.size,0,none⟩) 1 1) [false] ∧ ListsO Y (.slice (some ⟨X.heap.size + 1 + 1,0,none⟩) 1 1) [[]]:=by
 intro Y
 have h1 : Blk Y X.heap.size 4 #[.bool false]:=((Blk.new X _ _).alloc _).alloc _
 have h2 : Blk Y (X.heap.size + 1 + 1) 30 #[.slice (some ⟨X.heap.size + 1,0,none⟩) 0 0]:=by
  have h9:=Blk.new ((X.alloc (.cells #[.bool false] 4)).alloc (.cells #[] 4)) 30 #[.slice (some ⟨X.heap.size + 1,0,none⟩) 0 0]
  rwa [show ((X.alloc (.cells #[.bool false] 4)).alloc (.cells #[] 4)).heap.size = X.heap.size + 1 + 1 by simp] at h9
 refine ⟨(((Below.refl X.heap.size X).alloc zN _).alloc (by simp) _).alloc (by simp; omega) _,blk_roweR (zs:=([false] : List Bool)) lenO h1 (by simp [maxLen]),⟨[.slice (some ⟨X.heap.size + 1,0,none⟩) 0 0],blk_roweR (zs:=([.slice (some ⟨X.heap.size + 1,0,none⟩) 0 0] : List Value)) lenV h2 (by simp [maxLen]),rfl,fun i u zs hu hz => ?_⟩⟩
 match i,hu,hz with
 | 0,hu,hz => simp at hu hz; subst hu hz; exact rowe_nilA
 | n + 1,hu,_ => simp at hu
theorem exR_c1 (X : World) (a b c : Nat) (hin : exR.In X (exRV a b c)) : Calls Tryz.prog 24 #[(exRV a b c).val 1,.int .i64 0,.agg #[.slice (some ⟨X.heap.size,0,none⟩) 1 1,.slice (some ⟨X.heap.size + 1 + 1 + 1,0,none⟩) 2 2,.int .i64 (-1)]]
 ((((X.alloc (.cells #[.bool false] 4)).alloc (.cells #[] 4)).alloc (.cells #[] 4)).alloc (.cells #[.slice (some ⟨X.heap.size + 1,0,none⟩) 0 0,.slice (some ⟨X.heap.size + 1 + 1,0,none⟩) 0 0] 30)) fun e w' => e = .returned (.tuple #[.int .i64 1,.int .i64 0]) ∧ Below X.heap.size X w':=by
 obtain ⟨hb,hi,hr⟩:=two_rows X
 obtain ⟨O,hO⟩:=ord_ex hin exR_ok
 obtain rfl:=exR_ord (hO (by rw [exR_check]))
 have h9:=Bad_any _ (exRV a b c) exR ⟨.slice (some ⟨X.heap.size,0,none⟩) 1 1,.slice (some ⟨X.heap.size + 1 + 1 + 1,0,none⟩) 2 2⟩ exR1 0 [] (hin.below hb) exR_ok ⟨hi,hr⟩ hO
 rw [exR_b1] at h9
 exact h9.mono fun e w' ⟨he,hb2⟩ => ⟨he,bt hb zN hb2⟩
theorem exR_c2 (X : World) (a b c : Nat) (hin : exR.In X (exRV a b c)) : Calls Tryz.prog 24 #[(exRV a b c).val 1,.int .i64 0,.agg #[.slice (some ⟨X.heap.size,0,none⟩) 1 1,.slice (some ⟨X.heap.size + 1 + 1,0,none⟩) 1 1,.int .i64 (-1)]]
 (((X.alloc (.cells #[.bool false] 4)).alloc (.cells #[] 4)).alloc (.cells #[.slice (some ⟨X.heap.size + 1,0,none⟩) 0 0] 30)) fun e w' => e = .returned (.tuple #[.int .i64 0,.int .i64 131]) ∧ Below X.heap.size X w':=by
 obtain ⟨hb,hi,hr⟩:=one_rows X
 obtain ⟨O,hO⟩:=ord_ex hin exR_ok
 obtain rfl:=exR_ord (hO (by rw [exR_check]))
 have h9:=Bad_any _ (exRV a b c) exR ⟨.slice (some ⟨X.heap.size,0,none⟩) 1 1,.slice (some ⟨X.heap.size + 1 + 1,0,none⟩) 1 1⟩ exR2 0 [] (hin.below hb) exR_ok ⟨hi,hr⟩ hO
 rw [exR_b2] at h9
 exact h9.mono fun e w' ⟨he,hb2⟩ => ⟨he,bt hb zN hb2⟩
theorem exR_c3 (X : World) (a b c : Nat) (hin : exR.In X (exRV a b c)) : Calls Tryz.prog 25 #[(exRV a b c).val 1,.int .i64 0,.agg #[.slice (some ⟨X.heap.size,0,none⟩) 1 1,.slice (some ⟨X.heap.size + 1 + 1 + 1,0,none⟩) 2 2,.int .i64 0]]
 ((((X.alloc (.cells #[.bool false] 4)).alloc (.cells #[] 4)).alloc (.cells #[] 4)).alloc (.cells #[.slice (some ⟨X.heap.size + 1,0,none⟩) 0 0,.slice (some ⟨X.heap.size + 1 + 1,0,none⟩) 0 0] 30)) fun e w' => e = .returned (.tuple #[.int .i64 0,.int .i64 0]) ∧ Below X.heap.size X w':=by
 obtain ⟨hb,hi,hr⟩:=two_rows X
 obtain ⟨O,hO⟩:=ord_ex hin exR_ok
 obtain rfl:=exR_ord (hO (by rw [exR_check]))
 have h9:=Justice_any _ (exRV a b c) exR ⟨.slice (some ⟨X.heap.size,0,none⟩) 1 1,.slice (some ⟨X.heap.size + 1 + 1 + 1,0,none⟩) 2 2⟩ exR3 0 [] (hin.below hb) exR_ok exR_room ⟨hi,hr⟩ hO
 rw [exR_j3] at h9
 exact h9.mono fun e w' ⟨he,hb2⟩ => ⟨he,bt hb zN hb2⟩
set_option maxHeartbeats 4000000 in
set_option maxRecDepth 100000 in
theorem worksR_any (w : World) : Calls Tryz.prog 11 #[] w fun e w' => e = .returned (.bool true) ∧ Below w.heap.size w w' := by
 obtain ⟨X,hX⟩ : ∃ X,X = (((((w.alloc (.cells #[.int .i64 2,.int .i64 3,.int .i64 0] 46)).alloc (.cells #[.int .i64 2] 3)).alloc (.cells #[.int .i64 2] 3)).alloc (.cells #[.slice (some ⟨w.heap.size + 1 + 1,0,none⟩) 1 1] 22)).alloc (.cells #[.int .i64 1,.slice none 0 0,.slice (some ⟨w.heap.size,0,none⟩) 1 1,.slice none 0 0,.slice (some ⟨w.heap.size + 1,0,none⟩) 1 1,.slice none 0 0,.slice (some ⟨w.heap.size + 1 + 1 + 1,0,none⟩) 1 1,.slice none 0 0,.slice none 0 0,.slice none 0 0,.slice none 0 0] 29)):=⟨_,rfl⟩
 have h1 : Blk X w.heap.size 46 #[.int .i64 2,.int .i64 3,.int .i64 0]:=by rw [hX]; exact ((((Blk.new w _ _).alloc _).alloc _).alloc _).alloc _
 have e1 : (w.alloc (.cells #[.int .i64 2,.int .i64 3,.int .i64 0] 46)).heap.size = w.heap.size + 1:=by simp
 have e2 : ((w.alloc (.cells #[.int .i64 2,.int .i64 3,.int .i64 0] 46)).alloc (.cells #[.int .i64 2] 3)).heap.size = w.heap.size + 1 + 1:=by simp
 have e3 : (((w.alloc (.cells #[.int .i64 2,.int .i64 3,.int .i64 0] 46)).alloc (.cells #[.int .i64 2] 3)).alloc (.cells #[.int .i64 2] 3)).heap.size = w.heap.size + 1 + 1 + 1:=by simp
 have e4 : ((((w.alloc (.cells #[.int .i64 2,.int .i64 3,.int .i64 0] 46)).alloc (.cells #[.int .i64 2] 3)).alloc (.cells #[.int .i64 2] 3)).alloc (.cells #[.slice (some ⟨w.heap.size + 1 + 1,0,none⟩) 1 1] 22)).heap.size = w.heap.size + 1 + 1 + 1 + 1:=by simp
 have h2 : Blk X (w.heap.size + 1) 3 #[.int .i64 2]:=by rw [hX,← e1]; exact (((Blk.new _ _ _).alloc _).alloc _).alloc _
 have h3 : Blk X (w.heap.size + 1 + 1) 3 #[.int .i64 2]:=by
  have h9:=((Blk.new ((w.alloc (.cells #[.int .i64 2,.int .i64 3,.int .i64 0] 46)).alloc (.cells #[.int .i64 2] 3)) 3 #[.int .i64 2]).alloc (.cells #[.slice (some ⟨w.heap.size + 1 + 1,0,none⟩) 1 1] 22)).alloc (.cells #[.int .i64 1,.slice none 0 0,.slice (some ⟨w.heap.size,0,none⟩) 1 1,.slice none 0 0,.slice (some ⟨w.heap.size + 1,0,none⟩) 1 1,.slice none 0 0,.slice (some ⟨w.heap.size + 1 + 1 + 1,0,none⟩) 1 1,.slice none 0 0,.slice none 0 0,.slice none 0 0,.slice none 0 0] 29)
  rw [← hX,e2] at h9
  exact h9
 have h4 : Blk X (w.heap.size + 1 + 1 + 1) 22 #[.slice (some ⟨w.heap.size + 1 + 1,0,none⟩) 1 1]:=by
  have h9:=(Blk.new (((w.alloc (.cells #[.int .i64 2,.int .i64 3,.int .i64 0] 46)).alloc (.cells #[.int .i64 2] 3)).alloc (.cells #[.int .i64 2] 3)) 22 #[.slice (some ⟨w.heap.size + 1 + 1,0,none⟩) 1 1]).alloc (.cells #[.int .i64 1,.slice none 0 0,.slice (some ⟨w.heap.size,0,none⟩) 1 1,.slice none 0 0,.slice (some ⟨w.heap.size + 1,0,none⟩) 1 1,.slice none 0 0,.slice (some ⟨w.heap.size + 1 + 1 + 1,0,none⟩) 1 1,.slice none 0 0,.slice none 0 0,.slice none 0 0,.slice none 0 0] 29)
  rw [← hX,e3] at h9
  exact h9
 have h5 : Blk X (w.heap.size + 1 + 1 + 1 + 1) 29 ((exRV w.heap.size (w.heap.size + 1) (w.heap.size + 1 + 1 + 1)).cells 1):=by
  have h9:=Blk.new ((((w.alloc (.cells #[.int .i64 2,.int .i64 3,.int .i64 0] 46)).alloc (.cells #[.int .i64 2] 3)).alloc (.cells #[.int .i64 2] 3)).alloc (.cells #[.slice (some ⟨w.heap.size + 1 + 1,0,none⟩) 1 1] 22)) 29 #[.int .i64 1,.slice none 0 0,.slice (some ⟨w.heap.size,0,none⟩) 1 1,.slice none 0 0,.slice (some ⟨w.heap.size + 1,0,none⟩) 1 1,.slice none 0 0,.slice (some ⟨w.heap.size + 1 + 1 + 1,0,none⟩) 1 1,.slice none 0 0,.slice none 0 0,.slice none 0 0,.slice none 0 0]
  rw [← hX,e4] at h9
  exact h9
 have hB : Below w.heap.size w X:=by
  rw [hX]
  exact (((((Below.refl w.heap.size w).alloc zN _).alloc (by simp) _).alloc (by simp; omega) _).alloc (by simp; omega) _).alloc (by simp; omega) _
 have HIN : Hid (∀ wz,Below X.heap.size X wz → Blk wz (w.heap.size + 1 + 1 + 1 + 1) 29 ((exRV w.heap.size (w.heap.size + 1) (w.heap.size + 1 + 1 + 1)).cells 1) ∧ exR.In wz (exRV w.heap.size (w.heap.size + 1) (w.heap.size + 1 + 1 + 1)) ∧ Below w.heap.size w wz):=zH (fun wz hz => ⟨h5.below hz h5.lt,(exR_in h1 h2 h4 h3).below hz,bt hB zN hz⟩)
 have HX:=zH hX
 clear hX h1 h2 h3 h4 h5 e1 e2 e3 e4 hB
 have H0 : Hid (Below X.heap.size X X):=zH (Below.refl _ _)
 have HC1:=zH (exR_c1 X _ _ _ (HIN.out _ H0.out).2.1)
 go_enter Tryz.func11,Tryz.ntmps11
 go_upto_region 2 with (fail)
 rw [← HX.out]
 obtain ⟨c0,c1,c2,c3,c4,c5,c6,c7,c8,c9,c10⟩:=rbox_of (HIN.out _ H0.out).1
 go_upto_region 3 with (go_at_call 24; refine HC1.out.mono ?_; rintro e w2 ⟨rfl,hb⟩; have H1:=zH hb; clear hb c0 c1 c2 c3 c4 c5 c6 c7 c8 c9 c10; have HC2:=zH (exR_c2 w2 _ _ _ (HIN.out _ H1.out).2.1); obtain ⟨c0,c1,c2,c3,c4,c5,c6,c7,c8,c9,c10⟩:=rbox_of (HIN.out _ H1.out).1)
 go_upto_region 4 with (go_at_call 24; refine HC2.out.mono ?_; rintro e w3 ⟨rfl,hb⟩; have H2:=zH (bt H1.out zN hb); clear hb c0 c1 c2 c3 c4 c5 c6 c7 c8 c9 c10; have HC3:=zH (exR_c3 w3 _ _ _ (HIN.out _ H2.out).2.1); obtain ⟨c0,c1,c2,c3,c4,c5,c6,c7,c8,c9,c10⟩:=rbox_of (HIN.out _ H2.out).1)
 go_wp2_with (go_at_call 25; refine HC3.out.mono ?_; rintro e w4 ⟨rfl,hb⟩; have H3:=zH (bt H2.out zN hb); clear hb)
 go_ret
 exact ⟨rfl,(HIN.out _ H3.out).2.2⟩
end Go.Proofs.YtjbglgmbnjdhcaaGreat

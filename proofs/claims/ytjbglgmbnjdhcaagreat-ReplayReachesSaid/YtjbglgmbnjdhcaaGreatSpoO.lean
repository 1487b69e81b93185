import Derived.Test.YtjbglgmbnjdhcaaGreatAppF
import Derived.Test.YtjbglgmbnjdhcaaGreatSimB
namespace Go.Proofs.YtjbglgmbnjdhcaaGreat
open Go.RowKit

def BoolBlk (w : World) (g n cap : Nat) : Prop := ∃ cur : Array Value,w.heap[g]? = some (.cells cur 4 (0,0)) ∧ cur.size = cap ∧ ∀ i,i < n → ∃ b,cur[i]? = some (.bool b)
theorem BoolBlk.at_ {w : World} {g n cap : Nat} (h : BoolBlk w g n cap) (i : Nat) (hi : i < n) : ∃ b,w.cell? ⟨g,i,none⟩ = some (.bool b) := by
 obtain ⟨cur,hg,_,hb⟩:=h
 obtain ⟨b,hb⟩:=hb i hi
 exact ⟨b,by rw [cell_of_row w g _ cur _ _ hg,hb]⟩
set_option maxHeartbeats 800000 in
theorem SameO_any (w : World) (v u : Value) (xs ys : List Bool) (h : RowE 1 encO w v xs) (h' : RowE 1 encO w u ys) : Calls Tryz.prog 23 #[v,u] w fun e w' => e = .returned (.bool (decide (xs = ys))) ∧ Below w.heap.size w w' := by
 have hlen:=h.len
 have hlen':=h'.len
 unfold maxLen at hlen hlen'
 obtain ⟨A,c,rfl,hc,hm,hp⟩:=h
 obtain ⟨A',c',rfl,hc',hm',hq⟩:=h'
 generalize hr : decide (xs = ys) = r
 have HR:=zH hr
 clear hr hc hm hc' hm'
 have HP:=zH hp
 have HQ:=zH hq
 clear hp hq
 by_cases hne : xs.length = ys.length
 · rw [← hne]
   have HM:=zH hne
   clear hne hlen'
   generalize hn : xs.length = n at *
   have HN:=zH hn
   clear hn
   go_enter Tryz.func23,Tryz.ntmps23
   go_wp2
   go_loopw [5] (fun i wr => ∃ k : Nat,k ≤ n ∧ i = .int .i64 k ∧ xs.take k = ys.take k ∧ Below w.heap.size w wr) (fun i _ => n - (intOf i).toNat)
   case atStart => exact ⟨0,Nat.zero_le _,rfl,by simp,Below.refl _ _⟩
   case round =>
    obtain ⟨k,hk,rfl,hall,hbw⟩:=hrel
    have HA:=zH hall
    clear hall
    by_cases hlt : k < n
    · have hx:=List.getElem?_eq_getElem (l:=xs) (i:=k) (by rw [HN.out]; exact hlt)
      have hy:=List.getElem?_eq_getElem (l:=ys) (i:=k) (by rw [← HM.out]; exact hlt)
      generalize xs[k]'(by rw [HN.out]; exact hlt) = x at hx
      generalize ys[k]'(by rw [← HM.out]; exact hlt) = y at hy
      obtain ⟨b,off,rfl,hb,hcell⟩:=HP.out k x hx
      obtain ⟨b',off',rfl,hb',hcell'⟩:=HQ.out k y hy
      have HX:=zH hx
      have HY:=zH hy
      clear hx hy
      have h0:=(hbw.cell (p:=⟨b,off + (k * 1 + 0),none⟩) hb).trans (hcell 0 _ rfl)
      have g0:=(hbw.cell (p:=⟨b',off' + (k * 1 + 0),none⟩) hb').trans (hcell' 0 _ rfl)
      simp only [Nat.add_zero,Nat.mul_one] at h0 g0
      clear hcell hcell'
      cases he : x == y
      · have hr : r = false:=by
         rw [← HR.out,decide_eq_false_iff_not]
         intro e
         subst e
         have e2:=HX.out.symm.trans HY.out
         rw [Option.some.injEq] at e2
         rw [beq_iff_eq.2 e2] at he
         cases he
        subst hr
        clear HX HY
        have hl1 : (x == y) = false:=he
        have hl2 : (x != y) = true:=by unfold bne; rw [hl1]; rfl
        clear he
        all_goals
         go_wp2
         go_quiet (fail)
         go_wp2
         go_ret
         exact ⟨rfl,below_drewN hbw _⟩
      · have HE:=zH he
        have hl1 : (x == y) = true:=he
        have hl2 : (x != y) = false:=by unfold bne; rw [hl1]; rfl
        clear he
        go_wp2
        go_quiet (fail)
        go_wp2
        go_roundw
        case rel => exact ⟨k + 1,by omega,by go_num,take_eq_succ' HX.out (by rw [beq_iff_eq.1 HE.out]; exact HY.out) HA.out,below_drewN hbw _⟩
        case measure => simp [intOf]; omega
    · have : k = n:=by omega
      subst this
      go_wp2
      go_ret
      refine ⟨ret_bool ?_,hbw⟩
      rw [← HR.out,eq_comm,decide_eq_true_iff]
      exact take_all HN.out (HM.out.symm) HA.out
 · have hr : r = false:=by
    rw [← HR.out,decide_eq_false_iff_not]
    intro e; exact hne (by rw [e])
   subst hr
   have hd : ((xs.length : Int) == (ys.length : Int)) = false:=by simpa using fun e => hne (by exact_mod_cast e)
   have hd2 : ((xs.length : Int) != (ys.length : Int)) = true:=by simpa using fun e => hne (by exact_mod_cast e)
   have HR:=zH hne
   clear hne
   go_enter Tryz.func23,Tryz.ntmps23
   go_wp2
   go_ret
   exact ⟨rfl,Below.refl _ _⟩

end Go.Proofs.YtjbglgmbnjdhcaaGreat

/- Whether two lists have the same members: the contracts of the statements' helpers and of slices.Equal at each type of member. -/
import Derived.Test.YtdodhbfplglbkaaCirc
import Derived.Laws.StructEq
namespace Go.Proofs.Ytdodhbfplglbkaa
open Go.RowKit

def eqI (a b : Int) : Bool := a == b
theorem eqI_iff {a b : Int} : eqI a b = true ↔ a = b := by simp [eqI]
set_option maxHeartbeats 800000 in
theorem SameInts_any (w : World) (v u : Value) (xs ys : List Int) (h : RowE 1 encI w v xs) (h' : RowE 1 encI w u ys) : Calls Try.prog 56 #[v, u] w fun e w' => e = .returned (.bool (decide (xs = ys))) ∧ Below w.heap.size w w' := by
  have hlen := h.len
  have hlen' := h'.len
  unfold maxLen at hlen hlen'
  obtain ⟨A, c, rfl, hc, hm, hp⟩ := h
  obtain ⟨A', c', rfl, hc', hm', hq⟩ := h'
  generalize hr : decide (xs = ys) = r
  have HR := Lib.hid hr
  clear hr hc hm hc' hm'
  have HP := Lib.hid hp
  have HQ := Lib.hid hq
  clear hp hq
  by_cases hne : xs.length = ys.length
  · rw [← hne]
    have HM := Lib.hid hne
    clear hne hlen'
    generalize hn : xs.length = n at *
    have HN := Lib.hid hn
    clear hn
    go_enter Try.func56, Try.ntmps56
    go_wp2
    go_loopw [5] (fun i wr => ∃ k : Nat, k ≤ n ∧ i = .int .i64 k ∧ xs.take k = ys.take k ∧ Below w.heap.size w wr) (fun i _ => n - (intOf i).toNat)
    case atStart => exact ⟨0, Nat.zero_le _, rfl, by simp, Below.refl _ _⟩
    case round =>
      obtain ⟨k, hk, rfl, hall, hbw⟩ := hrel
      have HA := Lib.hid hall
      clear hall
      by_cases hlt : k < n
      · have hx := List.getElem?_eq_getElem (l := xs) (i := k) (by rw [HN.out]; exact hlt)
        have hy := List.getElem?_eq_getElem (l := ys) (i := k) (by rw [← HM.out]; exact hlt)
        generalize xs[k]'(by rw [HN.out]; exact hlt) = x at hx
        generalize ys[k]'(by rw [← HM.out]; exact hlt) = y at hy
        obtain ⟨b, off, rfl, hb, hcell⟩ := HP.out k x hx
        obtain ⟨b', off', rfl, hb', hcell'⟩ := HQ.out k y hy
        have HX := Lib.hid hx
        have HY := Lib.hid hy
        clear hx hy
        have h0 := (hbw.cell (p := ⟨b, off + (k * 1 + 0), none⟩) hb).trans (hcell 0 _ rfl)
        have g0 := (hbw.cell (p := ⟨b', off' + (k * 1 + 0), none⟩) hb').trans (hcell' 0 _ rfl)
        simp only [Nat.add_zero, Nat.mul_one] at h0 g0
        clear hcell hcell'
        cases he : eqI x y
        · have hr : r = false := by
            rw [← HR.out, decide_eq_false_iff_not]
            intro e
            subst e
            have e2 := HX.out.symm.trans HY.out
            rw [Option.some.injEq] at e2
            rw [eqI_iff.2 e2] at he
            cases he
          subst hr
          clear HX HY
          have hl1 : (x == y) = false := he
          have hl2 : (x != y) = true := by unfold bne; rw [hl1]; rfl
          clear he
          all_goals
            go_wp2
            go_quiet (fail)
            go_wp2
            go_ret
            exact ⟨rfl, below_drewN hbw _⟩
        · have HE := Lib.hid he
          have hl1 : (x == y) = true := he
          have hl2 : (x != y) = false := by unfold bne; rw [hl1]; rfl
          clear he
          go_wp2
          go_quiet (fail)
          go_wp2
          go_roundw
          case rel => exact ⟨k + 1, by omega, by go_num, take_eq_succ' HX.out (by rw [eqI_iff.1 HE.out]; exact HY.out) HA.out, below_drewN hbw _⟩
          case measure => simp [intOf]; omega
      · have : k = n := by omega
        subst this
        go_wp2
        go_ret
        refine ⟨ret_bool ?_, hbw⟩
        rw [← HR.out, eq_comm, decide_eq_true_iff]
        exact take_all HN.out (HM.out.symm) HA.out
  · have hr : r = false := by
      rw [← HR.out, decide_eq_false_iff_not]
      intro e; exact hne (by rw [e])
    subst hr
    have hd : ((xs.length : Int) == (ys.length : Int)) = false := by simpa using fun e => hne (by exact_mod_cast e)
    have hd2 : ((xs.length : Int) != (ys.length : Int)) = true := by simpa using fun e => hne (by exact_mod_cast e)
    have HR := Lib.hid hne
    clear hne
    go_enter Try.func56, Try.ntmps56
    go_wp2
    go_ret
    exact ⟨rfl, Below.refl _ _⟩

end Go.Proofs.Ytdodhbfplglbkaa

/- slices.EqualFunc of two lists of lists, by slices.Equal. -/
import Derived.Test.YtfcjdfjobneeeaaSameC
namespace Go.Proofs.Ytfcjdfjobneeeaa
open Go.RowKit

set_option maxHeartbeats 2000000 in
set_option maxRecDepth 100000 in
theorem EqualFunc_any (w : World) (v u : Value) (xs ys : List (List Int)) (h : Lists w v xs) (h' : Lists w u ys) : Calls Try.prog 65 #[v, u, .func (.func 63) #[] #[]] w fun e w' => e = .returned (.bool (decide (xs = ys))) ∧ Below w.heap.size w w' := by
  obtain ⟨A, c, rfl, hlen, hp⟩ := h.at_
  obtain ⟨A', c', rfl, hlen', hq⟩ := h'.at_
  unfold maxLen at hlen hlen'
  generalize hr : decide (xs = ys) = r
  have HR := Lib.hid hr
  have HP := Lib.hid hp
  have HQ := Lib.hid hq
  clear hr hp hq h h'
  by_cases hne : xs.length = ys.length
  · rw [← hne]
    have HM := Lib.hid hne
    clear hne hlen'
    generalize hn : xs.length = n at *
    have HN := Lib.hid hn
    clear hn
    go_enter Try.func65, Try.ntmps65
    go_wp2
    go_loopw [17] (fun i wr => ∃ k : Nat, k ≤ n ∧ i = .int .i64 k ∧ xs.take k = ys.take k ∧ Below w.heap.size w wr) (fun i _ => n - (intOf i).toNat)
    case atStart => exact ⟨0, Nat.zero_le _, rfl, by simp, Below.refl _ _⟩
    case round =>
      obtain ⟨k, hk, rfl, hall, hbw⟩ := hrel
      have HA := Lib.hid hall
      have HBW := Lib.hid hbw
      clear hall hbw
      by_cases hlt : k < n
      · have hx := List.getElem?_eq_getElem (l := xs) (i := k) (by rw [HN.out]; exact hlt)
        have hy := List.getElem?_eq_getElem (l := ys) (i := k) (by rw [← HM.out]; exact hlt)
        generalize xs[k]'(by rw [HN.out]; exact hlt) = x at hx
        generalize ys[k]'(by rw [← HM.out]; exact hlt) = y at hy
        obtain ⟨b, off, u1, rfl, hb, hcell, hrow⟩ := HP.out k x hx
        obtain ⟨b', off', u2, rfl, hb', hcell', hrow'⟩ := HQ.out k y hy
        have HX := Lib.hid hx
        have HY := Lib.hid hy
        have HC1 := Lib.hid hcell
        have HC2 := Lib.hid hcell'
        have HR1 := Lib.hid hrow
        have HR2 := Lib.hid hrow'
        clear hx hy hcell hcell' hrow hrow'
        cases he : decide (x = y)
        · have hr : r = false := by
            rw [← HR.out, decide_eq_false_iff_not]
            intro e
            subst e
            have e2 := HX.out.symm.trans HY.out
            rw [Option.some.injEq] at e2
            rw [decide_eq_true e2] at he
            cases he
          subst hr
          have HE := Lib.hid he
          clear he HX HY
          have q1 := (Below.cell HBW.out (p := ⟨b, off + k, none⟩) hb).trans HC1.out
          have q2 := (Below.cell HBW.out (p := ⟨b', off' + k, none⟩) hb').trans HC2.out
          go_wp2_with (go_at_call 63; refine (EqualI_any wr u1 u2 x y (HR1.out.below HBW.out) (HR2.out.below HBW.out)).mono ?_; rw [HE.out]; rintro e w5 ⟨rfl, hb2⟩; have HW5 := Lib.hid (bt HBW.out (Nat.le_refl _) hb2); clear hb2)
          go_ret
          exact ⟨rfl, HW5.out⟩
        · have HE := Lib.hid he
          have hxy : x = y := by simpa using he
          have HXY := Lib.hid hxy
          clear he hxy
          have q1 := (Below.cell HBW.out (p := ⟨b, off + k, none⟩) hb).trans HC1.out
          have q2 := (Below.cell HBW.out (p := ⟨b', off' + k, none⟩) hb').trans HC2.out
          go_wp2_with (go_at_call 63; refine (EqualI_any wr u1 u2 x y (HR1.out.below HBW.out) (HR2.out.below HBW.out)).mono ?_; rw [HE.out]; rintro e w5 ⟨rfl, hb2⟩; have HW5 := Lib.hid (bt HBW.out (Nat.le_refl _) hb2); clear hb2)
          go_roundw
          case rel => exact ⟨k + 1, by omega, by go_num, take_eq_succ' HX.out (by rw [HXY.out]; exact HY.out) HA.out, HW5.out⟩
          case measure => simp [intOf]; omega
      · have : k = n := by omega
        subst this
        go_wp2
        go_ret
        refine ⟨ret_bool ?_, HBW.out⟩
        rw [← HR.out, eq_comm, decide_eq_true_iff]
        exact take_all HN.out (HM.out.symm) HA.out
  · have hr : r = false := by
      rw [← HR.out, decide_eq_false_iff_not]
      intro e; exact hne (by rw [e])
    subst hr
    have hd : ((xs.length : Int) == (ys.length : Int)) = false := by simpa using fun e => hne (by exact_mod_cast e)
    have hd2 : ((xs.length : Int) != (ys.length : Int)) = true := by simpa using fun e => hne (by exact_mod_cast e)
    have HR := Lib.hid hne
    clear hne
    go_enter Try.func65, Try.ntmps65
    go_wp2
    go_ret
    exact ⟨rfl, Below.refl _ _⟩
end Go.Proofs.Ytfcjdfjobneeeaa

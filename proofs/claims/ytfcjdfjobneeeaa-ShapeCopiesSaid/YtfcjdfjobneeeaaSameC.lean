/- Whether two lists of lists, two circuits are the same: the contracts of the statements' helpers and of Same. -/
import Derived.Test.YtfcjdfjobneeeaaSame3
import Derived.Test.YtfcjdfjobneeeaaSizes
namespace Go.Proofs.Ytfcjdfjobneeeaa
open Go.RowKit

set_option maxHeartbeats 2000000 in
set_option maxRecDepth 100000 in
theorem SameLists_any (w : World) (v u : Value) (xs ys : List (List Int)) (h : Lists w v xs) (h' : Lists w u ys) : Calls Try.prog 54 #[v, u] w fun e w' => e = .returned (.bool (decide (xs = ys))) ∧ Below w.heap.size w w' := by
  obtain ⟨A, c, rfl, hlen, hp⟩ := h.at_
  obtain ⟨A', c', rfl, hlen', hq⟩ := h'.at_
  unfold maxLen at hlen hlen'
  generalize hr : decide (xs = ys) = r
  have HR := Lib.hid hr
  have HP := Lib.hid hp
  have HQ := Lib.hid hq
  clear hr hp hq h h'
  by_cases hne : xs.length = ys.length
  · rw [← hne]
    have HM := Lib.hid hne
    clear hne hlen'
    generalize hn : xs.length = n at *
    have HN := Lib.hid hn
    clear hn
    go_enter Try.func54, Try.ntmps54
    go_wp2
    go_loopw [5] (fun i wr => ∃ k : Nat, k ≤ n ∧ i = .int .i64 k ∧ xs.take k = ys.take k ∧ Below w.heap.size w wr) (fun i _ => n - (intOf i).toNat)
    case atStart => exact ⟨0, Nat.zero_le _, rfl, by simp, Below.refl _ _⟩
    case round =>
      obtain ⟨k, hk, rfl, hall, hbw⟩ := hrel
      have HA := Lib.hid hall
      have HBW := Lib.hid hbw
      clear hall hbw
      by_cases hlt : k < n
      · have hx := List.getElem?_eq_getElem (l := xs) (i := k) (by rw [HN.out]; exact hlt)
        have hy := List.getElem?_eq_getElem (l := ys) (i := k) (by rw [← HM.out]; exact hlt)
        generalize xs[k]'(by rw [HN.out]; exact hlt) = x at hx
        generalize ys[k]'(by rw [← HM.out]; exact hlt) = y at hy
        obtain ⟨b, off, u1, rfl, hb, hcell, hrow⟩ := HP.out k x hx
        obtain ⟨b', off', u2, rfl, hb', hcell', hrow'⟩ := HQ.out k y hy
        have HX := Lib.hid hx
        have HY := Lib.hid hy
        have HC1 := Lib.hid hcell
        have HC2 := Lib.hid hcell'
        have HR1 := Lib.hid hrow
        have HR2 := Lib.hid hrow'
        clear hx hy hcell hcell' hrow hrow'
        cases he : decide (x = y)
        · have hr : r = false := by
            rw [← HR.out, decide_eq_false_iff_not]
            intro e
            subst e
            have e2 := HX.out.symm.trans HY.out
            rw [Option.some.injEq] at e2
            rw [decide_eq_true e2] at he
            cases he
          subst hr
          have HE := Lib.hid he
          clear he HX HY
          go_wp2
          refine wp_region_quiet (C := fun w' => Below w.heap.size w w') (by kernel_rfl) (by kernel_rfl) (below_drewN HBW.out 1) ?_
          simp only
          repeat
            first
              | go_big_quiet_skip
              | (refine wpQuiet_step (fun K hK => ?_)
                 rw [if_pos (by rfl)]
                 unfold Oper.quiet
                 apply Exists.intro
                 refine And.intro (fun wx hWx => ?_) (hK _ ?_)
                 · first
                     | (go_simp; exact rfl)
                     | (have q1 := (Below.cell hWx (p := ⟨b, off + k, none⟩) hb).trans HC1.out; go_simp; exact rfl)
                     | (have q2 := (Below.cell hWx (p := ⟨b', off' + k, none⟩) hb').trans HC2.out; go_simp; exact rfl)
                     | (go_simp; refine (SameInts_any wx u1 u2 x y (HR1.out.below hWx) (HR2.out.below hWx)).mono ?_; rw [HE.out]; rintro e w' ⟨rfl, hb2⟩; exact ⟨rfl, bt hWx (Nat.le_refl _) hb2⟩)
                 clear hK K
                 try simp only [Act.put, List.setIfInBounds_toArray, List.set_cons_zero, List.set_cons_succ])
          refine wpQuiet_nil ?_
          intro w5 hW5
          have HW5 := Lib.hid hW5
          clear hW5
          go_wp2
          go_ret
          exact ⟨rfl, HW5.out⟩
        · have HE := Lib.hid he
          have hxy : x = y := by simpa using he
          have HXY := Lib.hid hxy
          clear he hxy
          go_wp2
          refine wp_region_quiet (C := fun w' => Below w.heap.size w w') (by kernel_rfl) (by kernel_rfl) (below_drewN HBW.out 1) ?_
          simp only
          repeat
            first
              | go_big_quiet_skip
              | (refine wpQuiet_step (fun K hK => ?_)
                 rw [if_pos (by rfl)]
                 unfold Oper.quiet
                 apply Exists.intro
                 refine And.intro (fun wx hWx => ?_) (hK _ ?_)
                 · first
                     | (go_simp; exact rfl)
                     | (have q1 := (Below.cell hWx (p := ⟨b, off + k, none⟩) hb).trans HC1.out; go_simp; exact rfl)
                     | (have q2 := (Below.cell hWx (p := ⟨b', off' + k, none⟩) hb').trans HC2.out; go_simp; exact rfl)
                     | (go_simp; refine (SameInts_any wx u1 u2 x y (HR1.out.below hWx) (HR2.out.below hWx)).mono ?_; rw [HE.out]; rintro e w' ⟨rfl, hb2⟩; exact ⟨rfl, bt hWx (Nat.le_refl _) hb2⟩)
                 clear hK K
                 try simp only [Act.put, List.setIfInBounds_toArray, List.set_cons_zero, List.set_cons_succ])
          refine wpQuiet_nil ?_
          intro w5 hW5
          have HW5 := Lib.hid hW5
          clear hW5
          go_wp2
          go_roundw
          case rel => exact ⟨k + 1, by omega, by go_num, take_eq_succ' HX.out (by rw [HXY.out]; exact HY.out) HA.out, HW5.out⟩
          case measure => simp [intOf]; omega
      · have : k = n := by omega
        subst this
        go_wp2
        go_ret
        refine ⟨ret_bool ?_, HBW.out⟩
        rw [← HR.out, eq_comm, decide_eq_true_iff]
        exact take_all HN.out (HM.out.symm) HA.out
  · have hr : r = false := by
      rw [← HR.out, decide_eq_false_iff_not]
      intro e; exact hne (by rw [e])
    subst hr
    have hd : ((xs.length : Int) == (ys.length : Int)) = false := by simpa using fun e => hne (by exact_mod_cast e)
    have hd2 : ((xs.length : Int) != (ys.length : Int)) = true := by simpa using fun e => hne (by exact_mod_cast e)
    have HR := Lib.hid hne
    clear hne
    go_enter Try.func54, Try.ntmps54
    go_wp2
    go_ret
    exact ⟨rfl, Below.refl _ _⟩
end Go.Proofs.Ytfcjdfjobneeeaa

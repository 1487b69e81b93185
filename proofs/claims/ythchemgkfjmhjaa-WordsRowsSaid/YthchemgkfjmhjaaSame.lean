/- Whether two rows of truths, two lists of words are the same. -/
import Derived.Test.YthchemgkfjmhjaaRow
namespace Go.Proofs.Ythchemgkfjmhjaa
open Go.RowKit

theorem ret_bool {a b : Bool} (h : a = b) : Ending.returned (.bool a) = .returned (.bool b) := by rw [h]
theorem below_drewN {B : Nat} {a w : World} (h : Below B a w) (n : Nat) : Below B a (w.drewN n) := ⟨h.os, h.tape, h.output, h.size, h.block⟩
theorem take_eq_succ {α : Type} {xs ys : List α} {k : Nat} (d : α) (h1 : k < xs.length) (h2 : k < ys.length) (h : xs.take k = ys.take k) (hx : xs.getD k d = ys.getD k d) : xs.take (k + 1) = ys.take (k + 1) := by
  rw [List.take_succ_eq_append_getElem h1, List.take_succ_eq_append_getElem h2, h]
  simp [List.getD, h1, h2] at hx
  rw [hx]

set_option maxHeartbeats 800000 in
theorem SameBools_any (w : World) (v u : Value) (xs ys : List Bool) (h : Row w v (bls xs)) (h' : Row w u (bls ys)) : Calls Try.prog 17 #[v, u] w fun e w' => e = .returned (.bool (decide (xs = ys))) ∧ Below w.heap.size w w' := by
  have hlen := h.len
  have hlen' := h'.len
  rw [List.length_map] at hlen hlen'
  unfold maxLen at hlen hlen'
  obtain ⟨A, c, rfl, _, _, h3⟩ := h
  obtain ⟨A', c', rfl, _, _, h3'⟩ := h'
  rw [List.length_map, List.length_map]
  have HP := Lib.hid h3
  have HQ := Lib.hid h3'
  clear h3 h3'
  generalize hr : decide (xs = ys) = r
  have HR := Lib.hid hr
  clear hr
  by_cases hne : xs.length = ys.length
  · have HM := Lib.hid hne
    rw [← hne]
    rw [← hne] at hlen'
    clear hne
    generalize hn : xs.length = n at *
    have HN := Lib.hid hn
    clear hn
    go_enter Try.func17, Try.ntmps17
    go_wp2
    go_loopw [5] (fun i wr => ∃ k : Nat, k ≤ n ∧ i = .int .i64 k ∧ xs.take k = ys.take k ∧ Below w.heap.size w wr) (fun i _ => n - (intOf i).toNat)
    case atStart => exact ⟨0, Nat.zero_le _, rfl, by simp, Below.refl _ _⟩
    case round =>
      obtain ⟨k, hk, rfl, hall, hbw⟩ := hrel
      have HA := Lib.hid hall
      have HBW := Lib.hid hbw
      clear hall
      by_cases hlt : k < n
      · obtain ⟨b, off, rfl, _, hcell⟩ := (HP.out.below hbw).bit k (by rw [HN.out]; exact hlt)
        obtain ⟨b', off', rfl, _, hcell'⟩ := (HQ.out.below hbw).bit k (by rw [← HM.out]; exact hlt)
        clear hbw
        generalize hxe : bit xs k = x at hcell
        generalize hye : bit ys k = y at hcell'
        have HX := Lib.hid hxe
        have HY := Lib.hid hye
        clear hxe hye
        by_cases hxy : x = y
        · subst hxy
          have hb1 : (x == x) = true := by simp
          have hb2 : (x != x) = false := by simp
          go_wp2
          go_quiet (fail)
          go_wp2
          go_roundw
          case rel => exact ⟨k + 1, by omega, by go_num, take_eq_succ false (by rw [HN.out]; exact hlt) (by rw [← HM.out]; exact hlt) HA.out (HX.out.trans HY.out.symm), below_drewN HBW.out _⟩
          case measure => simp [intOf]; omega
        · have hb1 : (x == y) = false := by simpa using hxy
          have hb2 : (x != y) = true := by simpa using hxy
          have HXY := Lib.hid hxy
          clear hxy
          go_wp2
          go_quiet (fail)
          go_wp2
          go_ret
          refine ⟨ret_bool ?_, below_drewN HBW.out _⟩
          rw [← HR.out, eq_comm, decide_eq_false_iff_not]
          intro e
          exact HXY.out (by rw [← HX.out, ← HY.out, e])
      · have : k = n := by omega
        subst this
        go_wp2
        go_ret
        refine ⟨ret_bool ?_, HBW.out⟩
        rw [← HR.out, eq_comm, decide_eq_true_iff]
        have := HA.out
        rwa [List.take_of_length_le (by rw [HN.out]; exact Nat.le_refl _), List.take_of_length_le (by rw [← HM.out]; exact Nat.le_refl _)] at this
  · have hr : r = false := by
      rw [← HR.out, decide_eq_false_iff_not]
      intro e; exact hne (by rw [e])
    rw [hr]
    have hd : ((xs.length : Int) == (ys.length : Int)) = false := by simpa using fun e => hne (by exact_mod_cast e)
    have hd2 : ((xs.length : Int) != (ys.length : Int)) = true := by simpa using fun e => hne (by exact_mod_cast e)
    clear hr HR hne
    go_enter Try.func17, Try.ntmps17
    go_wp2
    go_ret
    exact ⟨rfl, Below.refl _ _⟩

set_option maxHeartbeats 800000 in
theorem Same_any (w : World) (v u : Value) (xs ys : List Nat) (h : Row w v (wds xs)) (h' : Row w u (wds ys)) : Calls Try.prog 16 #[v, u] w fun e w' => e = .returned (.bool (decide (xs = ys))) ∧ Below w.heap.size w w' := by
  have hlen := h.len
  have hlen' := h'.len
  rw [List.length_map] at hlen hlen'
  unfold maxLen at hlen hlen'
  obtain ⟨A, c, rfl, _, _, h3⟩ := h
  obtain ⟨A', c', rfl, _, _, h3'⟩ := h'
  rw [List.length_map, List.length_map]
  have HP := Lib.hid h3
  have HQ := Lib.hid h3'
  clear h3 h3'
  generalize hr : decide (xs = ys) = r
  have HR := Lib.hid hr
  clear hr
  by_cases hne : xs.length = ys.length
  · have HM := Lib.hid hne
    rw [← hne]
    rw [← hne] at hlen'
    clear hne
    generalize hn : xs.length = n at *
    have HN := Lib.hid hn
    clear hn
    go_enter Try.func16, Try.ntmps16
    go_wp2
    go_loopw [5] (fun i wr => ∃ k : Nat, k ≤ n ∧ i = .int .i64 k ∧ xs.take k = ys.take k ∧ Below w.heap.size w wr) (fun i _ => n - (intOf i).toNat)
    case atStart => exact ⟨0, Nat.zero_le _, rfl, by simp, Below.refl _ _⟩
    case round =>
      obtain ⟨k, hk, rfl, hall, hbw⟩ := hrel
      have HA := Lib.hid hall
      have HBW := Lib.hid hbw
      clear hall
      by_cases hlt : k < n
      · obtain ⟨b, off, rfl, _, hcell⟩ := (HP.out.below hbw).word k (by rw [HN.out]; exact hlt)
        obtain ⟨b', off', rfl, _, hcell'⟩ := (HQ.out.below hbw).word k (by rw [← HM.out]; exact hlt)
        clear hbw
        generalize hxe : xs.getD k 0 = x at hcell
        generalize hye : ys.getD k 0 = y at hcell'
        have HX := Lib.hid hxe
        have HY := Lib.hid hye
        clear hxe hye
        by_cases hxy : x = y
        · subst hxy
          have hb1 : ((x : Int) == (x : Int)) = true := by simp
          have hb2 : ((x : Int) != (x : Int)) = false := by simp
          go_wp2
          go_quiet (fail)
          go_wp2
          go_roundw
          case rel => exact ⟨k + 1, by omega, by go_num, take_eq_succ 0 (by rw [HN.out]; exact hlt) (by rw [← HM.out]; exact hlt) HA.out (HX.out.trans HY.out.symm), below_drewN HBW.out _⟩
          case measure => simp [intOf]; omega
        · have hb1 : ((x : Int) == (y : Int)) = false := by simpa using fun e => hxy (by exact_mod_cast e)
          have hb2 : ((x : Int) != (y : Int)) = true := by simpa using fun e => hxy (by exact_mod_cast e)
          have HXY := Lib.hid hxy
          clear hxy
          go_wp2
          go_quiet (fail)
          go_wp2
          go_ret
          refine ⟨ret_bool ?_, below_drewN HBW.out _⟩
          rw [← HR.out, eq_comm, decide_eq_false_iff_not]
          intro e
          exact HXY.out (by rw [← HX.out, ← HY.out, e])
      · have : k = n := by omega
        subst this
        go_wp2
        go_ret
        refine ⟨ret_bool ?_, HBW.out⟩
        rw [← HR.out, eq_comm, decide_eq_true_iff]
        have := HA.out
        rwa [List.take_of_length_le (by rw [HN.out]; exact Nat.le_refl _), List.take_of_length_le (by rw [← HM.out]; exact Nat.le_refl _)] at this
  · have hr : r = false := by
      rw [← HR.out, decide_eq_false_iff_not]
      intro e; exact hne (by rw [e])
    rw [hr]
    have hd : ((xs.length : Int) == (ys.length : Int)) = false := by simpa using fun e => hne (by exact_mod_cast e)
    have hd2 : ((xs.length : Int) != (ys.length : Int)) = true := by simpa using fun e => hne (by exact_mod_cast e)
    clear hr HR hne
    go_enter Try.func16, Try.ntmps16
    go_wp2
    go_ret
    exact ⟨rfl, Below.refl _ _⟩
end Go.Proofs.Ythchemgkfjmhjaa

/- The document's Value; whether two lists of truths are the same. -/
import Derived.Test.YtcppmjgglcobcaaVal
namespace Go.Proofs.Ytcppmjgglcobcaa
open Go.RowKit Go.Shelf Go.Lib Go.Sort

set_option maxHeartbeats 2000000 in
theorem RValue_any (w : World) (v u : Value) (zs : List Int) (bs : List Bool) (h : Ints w v zs) (h' : Bools w u bs) :
    Calls Try.prog 21 #[v, u] w fun e w' => e = .returned (.tuple #[.bool (valB zs bs), .int .i64 (valE zs bs.length)]) ∧ Below w.heap.size w w' := by
  have hc := Wrong_any w v zs h
  have htrue := True_any w v u zs bs h h'
  obtain ⟨A, c, rfl, hr⟩ := h.reads
  obtain ⟨A', c', rfl, _⟩ := h'.slice
  have hlen' := h'.len
  unfold maxLen at hlen'
  have HTRUE := Lib.hid htrue
  generalize hvb : valB zs bs = vb
  generalize hve : valE zs bs.length = ve
  have HVB := Lib.hid hvb
  have HVE := Lib.hid hve
  clear hvb hve h h' htrue
  generalize hbl : bs.length = m at *
  have HBL := Lib.hid hbl
  clear hbl
  by_cases hE : wrongE zs = 0
  · rw [hE] at hc
    have HE := Lib.hid hE
    obtain ⟨hl, hF⟩ := wrongE_zero hE
    have HF := Lib.hid hF
    clear hE hF
    by_cases hn : 262144 < m
    · have HN := Lib.hid hn
      clear hr
      go_enter Try.func21, Try.ntmps21
      go_wp2_with (go_at_call 45; refine hc.mono ?_; rintro e w' ⟨rfl, rfl⟩)
      go_ret2
      have e1 := valE_l HE.out HN.out
      exact ⟨ret_val2 (by rw [← HVB.out, valB_no (by rw [HBL.out, e1]; decide)]) (by rw [← HVE.out, e1]), Below.refl _ _⟩
    · have hn' : m ≤ 262144 := by omega
      have HN := Lib.hid hn
      generalize hzl : zs.length = n at *
      have HZL := Lib.hid hzl
      have HR := Lib.hid hr
      clear hn hzl hr
      go_enter Try.func21, Try.ntmps21
      go_wp2_with (go_at_call 45; refine hc.mono ?_; rintro e w' ⟨rfl, rfl⟩)
      go_loop [7] (fun i => ∃ (k : Nat), k ≤ n ∧ i = .int .i64 k ∧ (zs.take k).all (inM m) = true) (fun i => n - (intOf i).toNat)
      case atStart => exact ⟨0, Nat.zero_le _, rfl, by simp⟩
      case round =>
        obtain ⟨k, hk, rfl, hall⟩ := hrel
        have HA := Lib.hid hall
        clear hall
        by_cases hlt : k < n
        · have hkl : k < zs.length := by rw [HZL.out]; exact hlt
          obtain ⟨ad, q, rfl, _, hq, hcell⟩ := HR.out.at_ hlt
          have hq' : q = .int .i64 (zs.getD k 0) := by
            simp [hkl] at hq
            simp [List.getD, hkl, ← hq]
          subst hq'
          have hFx := isF_yes (List.all_eq_true.1 HF.out _ (getD_mem hkl))
          generalize hxe : zs.getD k 0 = x at hcell hFx
          have HX := Lib.hid hxe
          have HK := Lib.hid hkl
          have hv := fun w => Abs_any x w hFx.2.1 hFx.2.2
          have ha1 : 1 ≤ absI x := by unfold absI; omega
          obtain ⟨a, ha⟩ : ∃ a : Nat, absI x = ((a + 1 : Nat) : Int) := ⟨(absI x - 1).toNat, by omega⟩
          rw [ha] at hv
          have HAX := Lib.hid ha
          clear hq hxe hFx ha ha1 hkl
          by_cases hin : a + 1 ≤ m
          · have HIN := Lib.hid (inM_yes HAX.out hin)
            go_wp2_with (go_at_call 41; refine (hv _).mono ?_; rintro e w' ⟨rfl, rfl⟩)
            go_round
            case rel => exact ⟨k + 1, by omega, by go_num, all_take_succ HK.out HA.out (by rw [HX.out]; exact HIN.out)⟩
            case measure => simp [intOf]; omega
          · have HIN := Lib.hid (inM_no HAX.out hin)
            go_wp2_with (go_at_call 41; refine (hv _).mono ?_; rintro e w' ⟨rfl, rfl⟩)
            go_ret2
            have e1 : valE zs m = 5 := valE_n HE.out HN.out (all_false HK.out (by rw [HX.out]; exact HIN.out))
            exact ⟨ret_val2 (by rw [← HVB.out, valB_no (by rw [HBL.out, e1]; decide)]) (by rw [← HVE.out, e1]), Below.refl _ _⟩
        · have e : k = n := by omega
          subst e
          have hA := HA.out
          rw [List.take_of_length_le (by rw [HZL.out]; exact Nat.le_refl _)] at hA
          have ht := HTRUE.out HE.out HN.out hA
          have HA' := Lib.hid hA
          generalize hq : zs.any (litV bs) = q at ht
          have HQ := Lib.hid hq
          clear hA hq
          go_wp2_with (go_at_call 47; refine ht.mono ?_; rintro e w1 ⟨rfl, hb1⟩)
          go_ret2
          have e1 : valE zs m = 0 := valE_ok HE.out HN.out HA'.out
          exact ⟨ret_val2 (by rw [← HVB.out, valB_yes (by rw [HBL.out, e1]), HQ.out]) (by rw [← HVE.out, e1]), hb1⟩
  · have HE := Lib.hid hE
    have hb1 : (wrongE zs != 0) = true := by simpa using hE
    have hb2 : (wrongE zs == 0) = false := by simpa using hE
    generalize hx : wrongE zs = x at hc hb1 hb2
    have HX := Lib.hid hx
    clear hE hx hr
    go_enter Try.func21, Try.ntmps21
    go_wp2_with (go_at_call 45; refine hc.mono ?_; rintro e w' ⟨rfl, rfl⟩)
    go_ret2
    have e1 : valE zs m = wrongE zs := valE_w HE.out
    exact ⟨ret_val2 (by rw [← HVB.out, valB_no (by rw [HBL.out, e1]; exact HE.out)]) (by rw [← HVE.out, e1, HX.out]), Below.refl _ _⟩

theorem takeb_eq_succ {xs ys : List Bool} {k : Nat} (h1 : k < xs.length) (h2 : k < ys.length) (h : xs.take k = ys.take k) (hx : xs.getD k false = ys.getD k false) : xs.take (k + 1) = ys.take (k + 1) := by
  rw [List.take_succ_eq_append_getElem h1, List.take_succ_eq_append_getElem h2, h]
  simp [List.getD, h1, h2] at hx
  rw [hx]

set_option maxHeartbeats 800000 in
/-- Two lists of the same truths are the same. -/
theorem SameBools_same (w : World) (v u : Value) (xs : List Bool) (h : Bools w v xs) (h' : Bools w u xs) : Calls Try.prog 25 #[v, u] w fun e w' => e = .returned (.bool true) ∧ Below w.heap.size w w' := by
  have hlen := h.len
  unfold maxLen at hlen
  obtain ⟨p, c, rfl, hp⟩ := h.slice
  obtain ⟨q, d, rfl, hq⟩ := h'.slice
  generalize hn : xs.length = n at *
  have HP := Lib.hid hp
  have HQ := Lib.hid hq
  clear h h' hp hq hn
  go_enter Try.func25, Try.ntmps25
  go_wp2
  go_loopw [5] (fun i wr => ∃ k : Nat, k ≤ n ∧ i = .int .i64 k ∧ Below w.heap.size w wr) (fun i _ => n - (intOf i).toNat)
  case atStart => exact ⟨0, Nat.zero_le _, rfl, Below.refl _ _⟩
  case round =>
    obtain ⟨k, hk, rfl, hbw⟩ := hrel
    by_cases hlt : k < n
    · obtain ⟨b, off, rfl, hb, hc⟩ := HP.out k hlt
      obtain ⟨b', off', rfl, hb', hc'⟩ := HQ.out k hlt
      have hcell := (hbw.cell (p := ⟨b, off + k, none⟩) hb).trans hc
      have hcell' := (hbw.cell (p := ⟨b', off' + k, none⟩) hb').trans hc'
      generalize xs.getD k false = x at hcell hcell'
      clear hc hc'
      cases x
      · go_wp2
        go_quiet (fail)
        go_wp2
        go_roundw
        case rel => exact ⟨k + 1, by omega, by go_num, below_drewN hbw _⟩
        case measure => simp [intOf]; omega
      · go_wp2
        go_quiet (fail)
        go_wp2
        go_roundw
        case rel => exact ⟨k + 1, by omega, by go_num, below_drewN hbw _⟩
        case measure => simp [intOf]; omega
    · have : k = n := by omega
      subst this
      go_wp2
      go_ret
      exact ⟨rfl, hbw⟩
end Go.Proofs.Ytcppmjgglcobcaa

/- The value of a clause by a model: the program's Value and the document's; the document's Normal. -/
import Derived.Test.YtcppmjgglcobcaaRef
namespace Go.Proofs.Ytcppmjgglcobcaa
open Go.RowKit Go.Shelf Go.Lib Go.Sort

theorem post_taut {w : World} {zs : List Int} {F : Nat} {args : Array Value} (hc : Calls Try.prog F args w (NormalPost w zs)) (ht : taut zs = true) :
    Calls Try.prog F args w fun e w' => e = .returned (.tuple #[.slice none 0 0, .bool false]) ∧ Below w.heap.size w w' := by
  refine hc.mono ?_
  rintro e w' ⟨hb, (⟨_, rfl⟩ | ⟨h', _⟩)⟩
  · exact ⟨rfl, hb⟩
  · rw [ht] at h'; cases h'

theorem post_nf {w : World} {zs : List Int} {F : Nat} {args : Array Value} (hc : Calls Try.prog F args w (NormalPost w zs)) (ht : taut zs = false) :
    Calls Try.prog F args w fun e w' => ∃ ns v', e = .returned (.tuple #[v', .bool true]) ∧ Below w.heap.size w w' ∧ NF zs ns ∧ Owns w.heap.size w' v' ns := by
  refine hc.mono ?_
  rintro e w' ⟨hb, (⟨h', _⟩ | ⟨_, ns, g, cap, rfl, hnf, hown⟩)⟩
  · rw [ht] at h'; cases h'
  · exact ⟨ns, _, rfl, hb, hnf, g, cap, rfl, hown⟩

set_option maxHeartbeats 400000 in
theorem RNormal_any (w : World) (v : Value) (zs : List Int) (h : Ints w v zs) : Calls Try.prog 19 #[v] w (NrmPost w zs) := by
  have hc := Wrong_any w v zs h
  by_cases hE : wrongE zs = 0
  · rw [hE] at hc
    have hn0 := Form0_any w v zs h (wrongE_zero hE).1 (wrongE_zero hE).2
    have HE := Lib.hid hE
    cases ht : taut zs
    · have hn := post_nf hn0 ht
      have HT := Lib.hid ht
      clear ht hE h hn0
      go_enter Try.func19, Try.ntmps19
      go_wp2_with (first
        | (go_at_call 45; refine hc.mono ?_; rintro e w' ⟨rfl, rfl⟩)
        | (go_at_call 46; refine hn.mono ?_; rintro e w1 ⟨ns, v', rfl, hb1, hnf, hown⟩))
      go_ret2
      exact ⟨hb1, .inr (.inr ⟨HE.out, HT.out, ns, _, rfl, hnf, hown⟩)⟩
    · have hn := post_taut hn0 ht
      have HT := Lib.hid ht
      clear ht hE h hn0
      go_enter Try.func19, Try.ntmps19
      go_wp2_with (first
        | (go_at_call 45; refine hc.mono ?_; rintro e w' ⟨rfl, rfl⟩)
        | (go_at_call 46; refine hn.mono ?_; rintro e w1 ⟨rfl, hb1⟩))
      go_ret2
      exact ⟨hb1, .inr (.inl ⟨HE.out, HT.out, rfl⟩)⟩
  · have HE := Lib.hid hE
    have hb1 : (wrongE zs != 0) = true := by simpa using hE
    have hb2 : (wrongE zs == 0) = false := by simpa using hE
    generalize hx : wrongE zs = x at hc hb1 hb2
    have HX := Lib.hid hx
    clear h hE hx
    go_enter Try.func19, Try.ntmps19
    go_wp2_with (go_at_call 45; refine hc.mono ?_; rintro e w' ⟨rfl, rfl⟩)
    go_ret2
    exact ⟨Below.refl _ _, .inl ⟨HE.out, by rw [HX.out]; rfl⟩⟩

/-- The slice value v reads, in w, as the truths bs. -/
def Bools (w : World) (v : Value) (bs : List Bool) : Prop :=
  (∃ A c, v = .slice A 0 c ∧ bs = []) ∨
  ∃ b off cap, v = .slice (some ⟨b, off, none⟩) bs.length cap ∧ bs.length ≤ cap ∧ cap ≤ maxLen ∧ b < w.heap.size ∧ ∀ i, i < bs.length → w.cell? ⟨b, off + i, none⟩ = some (.bool (bs.getD i false))

theorem Bools.below {w w' : World} {v : Value} {bs : List Bool} (h : Bools w v bs) (hb : Below w.heap.size w w') : Bools w' v bs := by
  rcases h with h | ⟨b, off, cap, rfl, h1, h2, h3, h4⟩
  · exact .inl h
  · exact .inr ⟨b, off, cap, rfl, h1, h2, Nat.lt_of_lt_of_le h3 hb.size, fun i hi => (hb.cell h3).trans (h4 i hi)⟩
theorem Bools.len {w : World} {v : Value} {bs : List Bool} (h : Bools w v bs) : bs.length ≤ maxLen := by
  rcases h with ⟨_, _, _, rfl⟩ | ⟨_, _, _, _, h1, h2, _⟩
  · simp
  · exact Nat.le_trans h1 h2
theorem Bools.slice {w : World} {v : Value} {bs : List Bool} (h : Bools w v bs) : ∃ A c, v = .slice A bs.length c ∧ ∀ i, i < bs.length → ∃ b off, A = some ⟨b, off, none⟩ ∧ b < w.heap.size ∧ w.cell? ⟨b, off + i, none⟩ = some (.bool (bs.getD i false)) := by
  rcases h with ⟨A, c, rfl, rfl⟩ | ⟨b, off, cap, rfl, h1, h2, h3, hc⟩
  · exact ⟨A, c, rfl, by simp⟩
  · exact ⟨_, _, rfl, fun i hi => ⟨b, off, rfl, h3, hc i hi⟩⟩

/-- The truth of a literal by a model. -/
def litV (bs : List Bool) (x : Int) : Bool := bs.getD (absI x - 1).toNat false == decide (0 < x)
def inM (n : Nat) (x : Int) : Bool := decide (absI x ≤ n)
def valE (zs : List Int) (n : Nat) : Int := if wrongE zs ≠ 0 then wrongE zs else if 262144 < n then 2 else if zs.all (inM n) = true then 0 else 5
def valB (zs : List Int) (bs : List Bool) : Bool := if valE zs bs.length = 0 then zs.any (litV bs) else false

theorem valE_w {zs : List Int} {n : Nat} (h : wrongE zs ≠ 0) : valE zs n = wrongE zs := if_pos h
theorem valE_l {zs : List Int} {n : Nat} (h : wrongE zs = 0) (hn : 262144 < n) : valE zs n = 2 := by unfold valE; rw [if_neg (by simp [h]), if_pos hn]
theorem valE_ok {zs : List Int} {n : Nat} (h : wrongE zs = 0) (hn : ¬ 262144 < n) (ha : zs.all (inM n) = true) : valE zs n = 0 := by unfold valE; rw [if_neg (by simp [h]), if_neg hn, if_pos ha]
theorem valE_n {zs : List Int} {n : Nat} (h : wrongE zs = 0) (hn : ¬ 262144 < n) (ha : zs.all (inM n) = false) : valE zs n = 5 := by unfold valE; rw [if_neg (by simp [h]), if_neg hn, if_neg (by simp [ha])]

theorem any_take_succ {p : Int → Bool} {zs : List Int} {k : Nat} (hk : k < zs.length) : (zs.take (k + 1)).any p = ((zs.take k).any p || p (zs.getD k 0)) := by
  rw [List.take_succ_eq_append_getElem hk, List.any_append]
  simp [List.getD, hk]

theorem valB_no {zs : List Int} {bs : List Bool} (h : valE zs bs.length ≠ 0) : valB zs bs = false := if_neg h
theorem valB_yes {zs : List Int} {bs : List Bool} (h : valE zs bs.length = 0) : valB zs bs = zs.any (litV bs) := if_pos h
theorem inM_yes {n a : Nat} {x : Int} (h : absI x = ((a + 1 : Nat) : Int)) (hn : a + 1 ≤ n) : inM n x = true := by unfold inM; rw [h]; simpa using by omega
theorem inM_no {n a : Nat} {x : Int} (h : absI x = ((a + 1 : Nat) : Int)) (hn : ¬ a + 1 ≤ n) : inM n x = false := by unfold inM; rw [h]; simp; omega
theorem litV_eq {bs : List Bool} {a : Nat} {x : Int} {b : Bool} (h : absI x = ((a + 1 : Nat) : Int)) (hb : bs.getD a false = b) : litV bs x = (b == decide (0 < x)) := by
  unfold litV; rw [h]; simp [← hb]
theorem any_step {p : Int → Bool} {zs : List Int} {k : Nat} {x : Int} {q b : Bool} (hk : k < zs.length) (hx : zs.getD k 0 = x) (hq : p x = q) (hb : (zs.take k).any p = b) : (b || q) = (zs.take (k + 1)).any p := by
  rw [any_take_succ hk, hx, hq, hb]

theorem ret_val2 {v : Bool} {x : Int} {v' : Bool} {x' : Int} (h : v = v') (h' : x = x') : Ending.returned (.tuple #[.bool v, .int .i64 x]) = .returned (.tuple #[.bool v', .int .i64 x']) := by rw [h, h']

set_option maxHeartbeats 2000000 in
theorem Value_any (w : World) (v u : Value) (zs : List Int) (bs : List Bool) (h : Ints w v zs) (h' : Bools w u bs) :
    Calls Try.prog 20 #[v, u] w fun e w' => e = .returned (.tuple #[.bool (valB zs bs), .int .i64 (valE zs bs.length)]) ∧ w = w' := by
  have hc := check_any w v zs h
  obtain ⟨A, c, rfl, hr⟩ := h.reads
  obtain ⟨A', c', rfl, hr'⟩ := h'.slice
  have hlen' := h'.len
  unfold maxLen at hlen'
  generalize hvb : valB zs bs = vb
  generalize hve : valE zs bs.length = ve
  have HVB := Lib.hid hvb
  have HVE := Lib.hid hve
  clear hvb hve h h'
  generalize hbl : bs.length = m at *
  have HBL := Lib.hid hbl
  clear hbl
  by_cases hE : wrongE zs = 0
  · rw [hE] at hc
    have HE := Lib.hid hE
    obtain ⟨hl, hF⟩ := wrongE_zero hE
    have HF := Lib.hid hF
    clear hE hF
    by_cases hn : 262144 < m
    · have HN := Lib.hid hn
      clear hr hr'
      go_enter Try.func20, Try.ntmps20
      go_wp2_with (go_at_call 43; refine hc.mono ?_; rintro e w' ⟨rfl, rfl⟩)
      go_ret2
      have e1 := valE_l HE.out HN.out
      exact ⟨ret_val2 (by rw [← HVB.out, valB_no (by rw [HBL.out, e1]; decide)]) (by rw [← HVE.out, e1]), rfl⟩
    · have hn' : m ≤ 262144 := by omega
      have HN := Lib.hid hn
      generalize hzl : zs.length = n at *
      have HZL := Lib.hid hzl
      have HR := Lib.hid hr
      have HR' := Lib.hid hr'
      clear hn hzl hr hr'
      go_enter Try.func20, Try.ntmps20
      go_wp2_with (go_at_call 43; refine hc.mono ?_; rintro e w' ⟨rfl, rfl⟩)
      go_loop [7, 20] (fun b i => ∃ (k : Nat) (bv : Bool), k ≤ n ∧ i = .int .i64 k ∧ (zs.take k).all (inM m) = true ∧ (zs.take k).any (litV bs) = bv ∧ b = .bool bv) (fun _ i => n - (intOf i).toNat)
      case atStart => exact ⟨0, _, Nat.zero_le _, rfl, by simp, rfl, by simp⟩
      case round =>
        obtain ⟨k, bv, hk, rfl, hall, hbv, rfl⟩ := hrel
        have HA := Lib.hid hall
        have HBV := Lib.hid hbv
        clear hall hbv
        by_cases hlt : k < n
        · have hkl : k < zs.length := by rw [HZL.out]; exact hlt
          obtain ⟨ad, q, rfl, _, hq, hcell⟩ := HR.out.at_ hlt
          have hq' : q = .int .i64 (zs.getD k 0) := by
            simp [hkl] at hq
            simp [List.getD, hkl, ← hq]
          subst hq'
          have hFx := isF_yes (List.all_eq_true.1 HF.out _ (getD_mem hkl))
          generalize hxe : zs.getD k 0 = x at hcell hFx
          have HX := Lib.hid hxe
          have HK := Lib.hid hkl
          have hv := fun w => variable_any x w hFx.2.1 hFx.2.2
          have ha1 : 1 ≤ absI x := by unfold absI; omega
          obtain ⟨a, ha⟩ : ∃ a : Nat, absI x = ((a + 1 : Nat) : Int) := ⟨(absI x - 1).toNat, by omega⟩
          rw [ha] at hv
          have HAX := Lib.hid ha
          clear hq hxe hFx ha ha1 hkl
          by_cases hin : a + 1 ≤ m
          · have HIN := Lib.hid (inM_yes HAX.out hin)
            obtain ⟨b', off', rfl, _, hcell'⟩ := HR'.out a (by omega)
            generalize hbe : bs.getD a false = bb at hcell'
            have HLV := Lib.hid (litV_eq HAX.out hbe)
            clear hbe
            by_cases hp : 0 < x
            · have HP := Lib.hid hp
              cases bb
              · go_wp2_with (go_at_call 39; refine (hv _).mono ?_; rintro e w' ⟨rfl, rfl⟩)
                go_round
                case rel => exact ⟨k + 1, _, by omega, by go_num, all_take_succ HK.out HA.out (by rw [HX.out]; exact HIN.out), rfl, by rw [← any_step HK.out HX.out HLV.out HBV.out, decide_eq_true HP.out]; simp⟩
                case measure => simp [intOf]; omega
              · go_wp2_with (go_at_call 39; refine (hv _).mono ?_; rintro e w' ⟨rfl, rfl⟩)
                go_round
                case rel => exact ⟨k + 1, _, by omega, by go_num, all_take_succ HK.out HA.out (by rw [HX.out]; exact HIN.out), rfl, by rw [← any_step HK.out HX.out HLV.out HBV.out, decide_eq_true HP.out]; simp⟩
                case measure => simp [intOf]; omega
            · have HP := Lib.hid hp
              have hpb : decide (0 < x) = false := by simpa using hp
              cases bb
              · go_wp2_with (go_at_call 39; refine (hv _).mono ?_; rintro e w' ⟨rfl, rfl⟩)
                go_round
                case rel => exact ⟨k + 1, _, by omega, by go_num, all_take_succ HK.out HA.out (by rw [HX.out]; exact HIN.out), rfl, by rw [← any_step HK.out HX.out HLV.out HBV.out, decide_eq_false (show ¬ 0 < x by have := HP.out; omega)]; simp⟩
                case measure => simp [intOf]; omega
              · go_wp2_with (go_at_call 39; refine (hv _).mono ?_; rintro e w' ⟨rfl, rfl⟩)
                go_round
                case rel => exact ⟨k + 1, _, by omega, by go_num, all_take_succ HK.out HA.out (by rw [HX.out]; exact HIN.out), rfl, by rw [← any_step HK.out HX.out HLV.out HBV.out, decide_eq_false (show ¬ 0 < x by have := HP.out; omega)]; simp⟩
                case measure => simp [intOf]; omega
          · have HIN := Lib.hid (inM_no HAX.out hin)
            go_wp2_with (go_at_call 39; refine (hv _).mono ?_; rintro e w' ⟨rfl, rfl⟩)
            go_ret2
            have e1 : valE zs m = 5 := valE_n HE.out HN.out (all_false HK.out (by rw [HX.out]; exact HIN.out))
            exact ⟨ret_val2 (by rw [← HVB.out, valB_no (by rw [HBL.out, e1]; decide)]) (by rw [← HVE.out, e1]), rfl⟩
        · have e : k = n := by omega
          subst e
          go_wp2
          go_ret2
          have hA := HA.out
          have hB := HBV.out
          rw [List.take_of_length_le (by rw [HZL.out]; exact Nat.le_refl _)] at hA hB
          have e1 : valE zs m = 0 := valE_ok HE.out HN.out hA
          exact ⟨ret_val2 (by rw [← HVB.out, valB_yes (by rw [HBL.out, e1]), hB]) (by rw [← HVE.out, e1]), rfl⟩
  · have HE := Lib.hid hE
    have hb1 : (wrongE zs != 0) = true := by simpa using hE
    have hb2 : (wrongE zs == 0) = false := by simpa using hE
    generalize hx : wrongE zs = x at hc hb1 hb2
    have HX := Lib.hid hx
    clear hE hx hr hr'
    go_enter Try.func20, Try.ntmps20
    go_wp2_with (go_at_call 43; refine hc.mono ?_; rintro e w' ⟨rfl, rfl⟩)
    go_ret2
    have e1 : valE zs m = wrongE zs := valE_w HE.out
    exact ⟨ret_val2 (by rw [← HVB.out, valB_no (by rw [HBL.out, e1]; exact HE.out)]) (by rw [← HVE.out, e1, HX.out]), rfl⟩

theorem calls_below {F : Nat} {args : Array Value} {w : World} {v : Value} (h : Calls Try.prog F args w fun e w' => e = .returned v ∧ w = w') : Calls Try.prog F args w fun e w' => e = .returned v ∧ w' = w :=
  h.mono fun _ _ ⟨he, hw⟩ => ⟨he, hw.symm⟩

set_option maxHeartbeats 2000000 in
theorem True_any (w : World) (v u : Value) (zs : List Int) (bs : List Bool) (h : Ints w v zs) (h' : Bools w u bs) (hE : wrongE zs = 0) (hn : ¬ 262144 < bs.length) (hM : zs.all (inM bs.length) = true) :
    Calls Try.prog 47 #[v, u] w fun e w' => e = .returned (.bool (zs.any (litV bs))) ∧ Below w.heap.size w w' := by
  obtain ⟨A, c, rfl, hr⟩ := h.reads
  obtain ⟨A', c', rfl, hr'⟩ := h'.slice
  obtain ⟨hl, hF⟩ := wrongE_zero hE
  generalize hvb : zs.any (litV bs) = vb
  have HVB := Lib.hid hvb
  have hn' : bs.length ≤ 262144 := by omega
  generalize hbl : bs.length = m at *
  have HBL := Lib.hid hbl
  generalize hzl : zs.length = n at *
  have HZL := Lib.hid hzl
  have HR := Lib.hid hr
  have HR' := Lib.hid hr'
  have HF := Lib.hid hF
  have HM := Lib.hid hM
  clear hvb h h' hE hn hM hbl hzl hr hr' hF
  go_enter Try.func47, Try.ntmps47
  go_wp2
  go_loopw [5] (fun i wr => ∃ (k : Nat), k ≤ n ∧ i = .int .i64 k ∧ (zs.take k).any (litV bs) = false ∧ Below w.heap.size w wr) (fun i _ => n - (intOf i).toNat)
  case atStart => exact ⟨0, Nat.zero_le _, rfl, by simp, Below.refl _ _⟩
  case round =>
    obtain ⟨k, hk, rfl, hbv, hbw⟩ := hrel
    have HBV := Lib.hid hbv
    clear hbv
    by_cases hlt : k < n
    · have hkl : k < zs.length := by rw [HZL.out]; exact hlt
      obtain ⟨ad, q, rfl, had, hq, hcell⟩ := (HR.out.below hbw).at_ hlt
      have hq' : q = .int .i64 (zs.getD k 0) := by
        simp [hkl] at hq
        simp [List.getD, hkl, ← hq]
      subst hq'
      have hFx := isF_yes (List.all_eq_true.1 HF.out _ (getD_mem hkl))
      have hMx := List.all_eq_true.1 HM.out _ (getD_mem hkl)
      generalize hxe : zs.getD k 0 = x at hcell hFx hMx
      have HX := Lib.hid hxe
      have HK := Lib.hid hkl
      have hv := fun w => variable_any x w hFx.2.1 hFx.2.2
      have ha1 : 1 ≤ absI x := by unfold absI; omega
      obtain ⟨a, ha⟩ : ∃ a : Nat, absI x = ((a + 1 : Nat) : Int) := ⟨(absI x - 1).toNat, by omega⟩
      have hin : a + 1 ≤ m := by unfold inM at hMx; rw [ha] at hMx; simp at hMx; omega
      have hv := fun w => Abs_any x w hFx.2.1 hFx.2.2
      rw [ha] at hv
      have HV : Hid (∀ w, Calls Try.prog 41 #[.int .i64 x] w fun e w' => e = .returned (.int .i64 ((a + 1 : Nat) : Int)) ∧ w = w') := hv
      obtain ⟨b', off', rfl, hb', hcell0⟩ := HR'.out a (by omega)
      have hcell' := (hbw.cell (p := ⟨b', off' + a, none⟩) hb').trans hcell0
      generalize hbe : bs.getD a false = bb at hcell'
      have HLV := Lib.hid (litV_eq ha hbe)
      clear hq hxe hFx ha ha1 hkl hMx hv hbe hcell0
      have hs1 : IntKind.i64.wrap (((a + 1 : Nat) : Int) - 1) = (a : Int) := by rw [IntKind.wrap_i64]; omega
      have hs2 : ((a + 1 : Nat) : Int) - 1 = (a : Int) := by omega
      by_cases hp : 0 < x
      · have hpb : decide (0 < x) = true := by simpa using hp
        have HP : Hid (decide (0 < x) = true) := hpb
        cases bb
        · go_wp2
          go_quiet ((go_at_call 41; exact Calls.quiet_of_same (calls_below (HV.out _))))
          go_wp2
          go_roundw
          case rel => exact ⟨k + 1, by omega, by go_num, by rw [← any_step HK.out HX.out HLV.out HBV.out, HP.out]; rfl, below_drewN hbw _⟩
          case measure => simp [intOf]; omega
        · go_wp2
          go_quiet ((go_at_call 41; exact Calls.quiet_of_same (calls_below (HV.out _))))
          go_wp2
          go_ret
          refine ⟨ret_bool ?_, below_drewN hbw _⟩
          rw [← HVB.out, eq_comm, List.any_eq_true]
          exact ⟨x, by rw [← HX.out]; exact getD_mem HK.out, by rw [HLV.out, HP.out]; rfl⟩
      · have hpb : decide (0 < x) = false := by simpa using hp
        have HP : Hid (decide (0 < x) = false) := hpb
        clear hp
        cases bb
        · go_wp2
          go_quiet ((go_at_call 41; exact Calls.quiet_of_same (calls_below (HV.out _))))
          go_wp2
          go_ret
          refine ⟨ret_bool ?_, below_drewN hbw _⟩
          rw [← HVB.out, eq_comm, List.any_eq_true]
          exact ⟨x, by rw [← HX.out]; exact getD_mem HK.out, by rw [HLV.out, HP.out]; rfl⟩
        · go_wp2
          go_quiet ((go_at_call 41; exact Calls.quiet_of_same (calls_below (HV.out _))))
          go_wp2
          go_roundw
          case rel => exact ⟨k + 1, by omega, by go_num, by rw [← any_step HK.out HX.out HLV.out HBV.out, HP.out]; rfl, below_drewN hbw _⟩
          case measure => simp [intOf]; omega
    · have e : k = n := by omega
      subst e
      go_wp2
      go_ret
      refine ⟨ret_bool ?_, hbw⟩
      have hB := HBV.out
      rw [List.take_of_length_le (by rw [HZL.out]; exact Nat.le_refl _)] at hB
      rw [← HVB.out, hB]
end Go.Proofs.Ytcppmjgglcobcaa

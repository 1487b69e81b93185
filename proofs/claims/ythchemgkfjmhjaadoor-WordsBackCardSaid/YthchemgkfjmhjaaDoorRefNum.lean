/- The document's Number: the number whose digits begin at a place of a text. -/
import Derived.Test.YthchemgkfjmhjaaDoorRefPut
namespace Go.Proofs.YthchemgkfjmhjaaDoor
open Go.RowKit
set_option maxHeartbeats 1000000 in
theorem isDigit_any (s : ByteArray) (k : Nat) (w : World) (hs : s.size ≤ 262144) (hk : (k : Int) ≤ 1000000) : Calls Tryd.prog 28 #[.string s, .int .i64 k] w fun e w' => e = .returned (.bool (digAt s k)) ∧ w = w' := by
  by_cases h : k < s.size
  · rw [digAt_lt h]
    have hb : (s[k].toNat : Int) ≤ 255 := by have := UInt8.toNat_lt s[k]; omega
    generalize hd : isDig s[k] = d
    unfold isDig at hd
    by_cases h1 : 48 ≤ s[k].toNat
    · by_cases h2 : s[k].toNat ≤ 57
      · have hd2 : d = true := by rw [← hd]; simp [h1, h2]
        subst hd2
        have q1 : decide ((s[k].toNat : Int) ≤ 57) = true := decide_eq_true (by omega)
        have q2 : decide ((48 : Int) ≤ (s[k].toNat : Int)) = true := decide_eq_true (by omega)
        clear hd h1 h2
        go_enter Tryd.func28, Tryd.ntmps28
        go_wp2
        go_ret
        exact ⟨rfl, rfl⟩
      · have hd2 : d = false := by rw [← hd]; simp [h2]
        subst hd2
        have q1 : decide ((s[k].toNat : Int) ≤ 57) = false := decide_eq_false (by omega)
        have q2 : decide ((48 : Int) ≤ (s[k].toNat : Int)) = true := decide_eq_true (by omega)
        clear hd h1 h2
        go_enter Tryd.func28, Tryd.ntmps28
        go_wp2
        go_ret
        exact ⟨rfl, rfl⟩
    · have hd2 : d = false := by rw [← hd]; simp [h1]
      subst hd2
      have q1 : decide ((48 : Int) ≤ (s[k].toNat : Int)) = false := decide_eq_false (by omega)
      clear hd h1
      go_enter Tryd.func28, Tryd.ntmps28
      go_wp2
      go_ret
      exact ⟨rfl, rfl⟩
  · rw [digAt_ge h]
    have q1 : decide (k < s.size) = false := decide_eq_false h
    clear h
    go_enter Tryd.func28, Tryd.ntmps28
    go_wp2
    go_ret
    exact ⟨rfl, rfl⟩

set_option maxHeartbeats 2000000 in
set_option maxRecDepth 100000 in
theorem Number0_any (s : ByteArray) (a : Nat) (w : World) (hs : s.size ≤ 262144) (ha : a ≤ s.size) :
    Calls Tryd.prog 25 #[.string s, .int .i64 a] w fun e w' => NumPost a (numO (from_ s a)) e ∧ w = w' := by
  have hd := fun (k : Nat) (hk : (k : Int) ≤ 1000000) (w : World) => isDigit_any s k w hs hk
  generalize ho : numO (from_ s a) = o
  have HO := Lib.hid ho
  clear ho
  cases h0 : digAt s a
  · have H0 := Lib.hid h0
    have hd0 := fun w => hd a (by omega) w
    rw [h0] at hd0
    clear h0 hd
    go_enter Tryd.func25, Tryd.ntmps25
    go_wp2_with (go_at_call 28; refine (hd0 _).mono ?_; rintro e w' ⟨rfl, rfl⟩)
    refine bodyPost_ret (v := .tuple #[.int .i64 0, .int .i64 0, .bool false]) (by simp [results, Tryd.results25, go_sem]) rfl ⟨numPost_none (HO.out.symm.trans (numO_first H0.out)) rfl, rfl⟩
  · have hlt : a < s.size := by
      by_cases h : a < s.size
      · exact h
      · rw [digAt_ge h] at h0; cases h0
    have H0 := Lib.hid h0
    have hd0 := fun w => hd a (by omega) w
    rw [h0] at hd0
    by_cases hz : s[a].toNat = 48 ∧ digAt s (a + 1) = true
    · have HZ := Lib.hid hz
      have hd1 := fun w => hd (a + 1) (by omega) w
      rw [hz.2] at hd1
      have q1 : ((s[a].toNat : Int) == 48) = true := by rw [hz.1]; rfl
      clear h0 hd hz
      go_enter Tryd.func25, Tryd.ntmps25
      go_wp2_with (first | (go_at_call 28; with_reducible refine (hd0 _).mono ?_; rintro e w' ⟨rfl, rfl⟩) | (go_at_call 28; refine (hd1 _).mono ?_; rintro e w' ⟨rfl, rfl⟩))
      refine bodyPost_ret (v := .tuple #[.int .i64 0, .int .i64 0, .bool false]) (by simp [results, Tryd.results25, go_sem]) rfl ⟨numPost_none (HO.out.symm.trans (numO_zero hlt HZ.out.1 HZ.out.2)) rfl, rfl⟩
    · have HZ : Hid (∀ h : a < s.size, s[a].toNat = 48 → digAt s (a + 1) = false) := fun h h48 => by
        cases h1 : digAt s (a + 1)
        · rfl
        · exact absurd ⟨h48, h1⟩ hz
      have HD := Lib.hid hd
      by_cases h48 : s[a].toNat = 48
      · have hd1 := fun w => hd (a + 1) (by omega) w
        rw [HZ.out hlt h48] at hd1
        have q1 : ((s[a].toNat : Int) == 48) = true := by rw [h48]; rfl
        clear h0 hd hz h48
        go_enter Tryd.func25, Tryd.ntmps25
        go_wp2_with (first | (go_at_call 28; with_reducible refine (hd0 _).mono ?_; rintro e w' ⟨rfl, rfl⟩) | (go_at_call 28; refine (hd1 _).mono ?_; rintro e w' ⟨rfl, rfl⟩))
        clear q1 hd0 hd1
        go_loop [7, 8] (fun q i => ∃ j : Nat, i = .int .i64 ((a + j : Nat) : Int) ∧ a + j ≤ s.size ∧ q = .int .i64 (dval ((from_ s a).take j) : Nat) ∧ DigTo s a j ∧ dval ((from_ s a).take j) ≤ 2147483647) (fun _ i => s.size - (intOf i).toNat)
        case atStart => exact ⟨0, rfl, by omega, by simp [dval], by intro i hi; omega, by simp [dval]⟩
        case round =>
          obtain ⟨j, rfl, hj, rfl, hto, hval⟩ := hrel
          have HTO := Lib.hid hto
          have hdj := fun w => HD.out (a + j) (by omega) w
          cases hdig : digAt s (a + j)
          · rw [hdig] at hdj
            have HJ : Hid (0 < j) := by
              rcases Nat.eq_zero_or_pos j with e | e
              · subst e; have := H0.out; simp only [Nat.add_zero] at hdig; rw [hdig] at this; cases this
              · exact e
            have HO2 := Lib.hid (HO.out.symm.trans (numO_good HTO.out HJ.out hdig HZ.out hval))
            generalize dval ((from_ s a).take j) = n at hval HO2
            have hval2 : (n : Int) ≤ 2147483647 := by omega
            clear hto hdig hval
            go_wp2_with (go_at_call 28; refine (hdj _).mono ?_; rintro e w' ⟨rfl, rfl⟩)
            refine bodyPost_ret (v := .tuple #[.int .i64 n, .int .i64 ((a + j : Nat) : Int), .bool true]) (by simp [results, Tryd.results25, go_sem]) rfl ⟨numPost_some HO2.out rfl, rfl⟩
          · rw [hdig] at hdj
            have hlj : a + j < s.size := by
              by_cases h : a + j < s.size
              · exact h
              · rw [digAt_ge h] at hdig; cases hdig
            have hto1 : DigTo s a (j + 1) := fun i hi => by
              by_cases e : i = j
              · subst e; exact hdig
              · exact hto i (by omega)
            have HTO1 := Lib.hid hto1
            have hbd := isDig_bounds (b := s[a + j]) (by rw [← digAt_lt hlj]; exact hdig)
            have hdv : dval ((from_ s a).take (j + 1)) = dval ((from_ s a).take j) * 10 + (s[a + j].toNat - 48) := by rw [take_next hlj, dval_snoc]
            generalize hc : s[a + j].toNat = c at hbd hdv
            have hcb : c ≤ 57 := by omega
            obtain ⟨hb1, hb2⟩ := hbd
            generalize hn : dval ((from_ s a).take j) = n at hval hdv
            have HN := Lib.hid hn
            have HDV := Lib.hid hdv
            have hval2 : (n : Int) ≤ 2147483647 := by omega
            have hc2 : ((c : Int) - 48) = ((c - 48 : Nat) : Int) := by omega
            clear hto hdig hto1 hdv hval hn
            by_cases hbig : n * 10 + (c - 48) ≤ 2147483647
            · have hbig2 : (n : Int) * 10 + ((c - 48 : Nat) : Int) ≤ 2147483647 := by omega
              have HB := Lib.hid hbig
              clear hbig
              go_wp2_with (go_at_call 28; refine (hdj _).mono ?_; rintro e w' ⟨rfl, rfl⟩)
              go_round
              case rel => exact ⟨j + 1, by go_num, by omega, congrArg (Value.int .i64) (by rw [HDV.out]; omega), HTO1.out, by rw [HDV.out]; exact HB.out⟩
              case measure => simp [intOf]; omega
            · have hbig2 : ¬ (n : Int) * 10 + ((c - 48 : Nat) : Int) ≤ 2147483647 := by omega
              have hbig3 : (n : Int) * 10 + ((c - 48 : Nat) : Int) ≤ 30000000000 := by omega
              have HO2 := Lib.hid (HO.out.symm.trans (numO_big HTO1.out (by rw [HDV.out]; omega)))
              clear hbig
              go_wp2_with (go_at_call 28; refine (hdj _).mono ?_; rintro e w' ⟨rfl, rfl⟩)
              refine bodyPost_ret (v := .tuple #[.int .i64 0, .int .i64 0, .bool false]) (by simp [results, Tryd.results25, go_sem]) rfl ⟨numPost_none HO2.out rfl, rfl⟩
      · have q1 : ((s[a].toNat : Int) == 48) = false := by simp; omega
        clear h0 hd hz h48
        go_enter Tryd.func25, Tryd.ntmps25
        go_wp2_with (first | (go_at_call 28; with_reducible refine (hd0 _).mono ?_; rintro e w' ⟨rfl, rfl⟩))
        clear q1 hd0
        go_loop [7, 8] (fun q i => ∃ j : Nat, i = .int .i64 ((a + j : Nat) : Int) ∧ a + j ≤ s.size ∧ q = .int .i64 (dval ((from_ s a).take j) : Nat) ∧ DigTo s a j ∧ dval ((from_ s a).take j) ≤ 2147483647) (fun _ i => s.size - (intOf i).toNat)
        case atStart => exact ⟨0, rfl, by omega, by simp [dval], by intro i hi; omega, by simp [dval]⟩
        case round =>
          obtain ⟨j, rfl, hj, rfl, hto, hval⟩ := hrel
          have HTO := Lib.hid hto
          have hdj := fun w => HD.out (a + j) (by omega) w
          cases hdig : digAt s (a + j)
          · rw [hdig] at hdj
            have HJ : Hid (0 < j) := by
              rcases Nat.eq_zero_or_pos j with e | e
              · subst e; have := H0.out; simp only [Nat.add_zero] at hdig; rw [hdig] at this; cases this
              · exact e
            have HO2 := Lib.hid (HO.out.symm.trans (numO_good HTO.out HJ.out hdig HZ.out hval))
            generalize dval ((from_ s a).take j) = n at hval HO2
            have hval2 : (n : Int) ≤ 2147483647 := by omega
            clear hto hdig hval
            go_wp2_with (go_at_call 28; refine (hdj _).mono ?_; rintro e w' ⟨rfl, rfl⟩)
            refine bodyPost_ret (v := .tuple #[.int .i64 n, .int .i64 ((a + j : Nat) : Int), .bool true]) (by simp [results, Tryd.results25, go_sem]) rfl ⟨numPost_some HO2.out rfl, rfl⟩
          · rw [hdig] at hdj
            have hlj : a + j < s.size := by
              by_cases h : a + j < s.size
              · exact h
              · rw [digAt_ge h] at hdig; cases hdig
            have hto1 : DigTo s a (j + 1) := fun i hi => by
              by_cases e : i = j
              · subst e; exact hdig
              · exact hto i (by omega)
            have HTO1 := Lib.hid hto1
            have hbd := isDig_bounds (b := s[a + j]) (by rw [← digAt_lt hlj]; exact hdig)
            have hdv : dval ((from_ s a).take (j + 1)) = dval ((from_ s a).take j) * 10 + (s[a + j].toNat - 48) := by rw [take_next hlj, dval_snoc]
            generalize hc : s[a + j].toNat = c at hbd hdv
            have hcb : c ≤ 57 := by omega
            obtain ⟨hb1, hb2⟩ := hbd
            generalize hn : dval ((from_ s a).take j) = n at hval hdv
            have HN := Lib.hid hn
            have HDV := Lib.hid hdv
            have hval2 : (n : Int) ≤ 2147483647 := by omega
            have hc2 : ((c : Int) - 48) = ((c - 48 : Nat) : Int) := by omega
            clear hto hdig hto1 hdv hval hn
            by_cases hbig : n * 10 + (c - 48) ≤ 2147483647
            · have hbig2 : (n : Int) * 10 + ((c - 48 : Nat) : Int) ≤ 2147483647 := by omega
              have HB := Lib.hid hbig
              clear hbig
              go_wp2_with (go_at_call 28; refine (hdj _).mono ?_; rintro e w' ⟨rfl, rfl⟩)
              go_round
              case rel => exact ⟨j + 1, by go_num, by omega, congrArg (Value.int .i64) (by rw [HDV.out]; omega), HTO1.out, by rw [HDV.out]; exact HB.out⟩
              case measure => simp [intOf]; omega
            · have hbig2 : ¬ (n : Int) * 10 + ((c - 48 : Nat) : Int) ≤ 2147483647 := by omega
              have hbig3 : (n : Int) * 10 + ((c - 48 : Nat) : Int) ≤ 30000000000 := by omega
              have HO2 := Lib.hid (HO.out.symm.trans (numO_big HTO1.out (by rw [HDV.out]; omega)))
              clear hbig
              go_wp2_with (go_at_call 28; refine (hdj _).mono ?_; rintro e w' ⟨rfl, rfl⟩)
              refine bodyPost_ret (v := .tuple #[.int .i64 0, .int .i64 0, .bool false]) (by simp [results, Tryd.results25, go_sem]) rfl ⟨numPost_none HO2.out rfl, rfl⟩
end Go.Proofs.YthchemgkfjmhjaaDoor

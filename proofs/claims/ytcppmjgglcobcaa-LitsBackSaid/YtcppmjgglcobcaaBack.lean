/- LitsBack: the walks: for every number and every clause the statement's Go function returns true and leaves its arguments as they were. -/
import Derived.Test.YtcppmjgglcobcaaVal2
import Derived.BigRegion
namespace Go.Proofs.Ytcppmjgglcobcaa
open Go.RowKit Go.Shelf Go.Lib Go.Sort

theorem isC_notV {l : Int} (h : isC l = true) : isC (notV l) = true := by
  have := isC_yes h
  apply isC_mid <;> unfold notV <;> split <;> omega
theorem notV_notV {l : Int} (h : isC l = true) : notV (notV l) = l := by
  have := isC_yes h
  unfold notV
  by_cases hp : l % 2 = 0
  · rw [if_pos hp, if_neg (by omega)]; omega
  · rw [if_neg hp, if_pos (by omega)]; omega
theorem toV_notV {l : Int} (h : isC l = true) : toV (notV l) = -toV l := by
  have := isC_yes h
  unfold notV toV
  by_cases hp : l % 2 = 0
  · rw [if_pos hp, if_pos (by omega), if_neg (by omega)]; omega
  · rw [if_neg hp, if_neg (by omega), if_pos (by omega)]; omega
theorem toV_bd {l : Int} (h : isC l = true) : -16385 ≤ toV l ∧ toV l ≤ 16385 ∧ toV l ≠ 0 := by
  have := isC_yes h
  unfold toV
  split <;> omega
theorem fromV_toV {l : Int} (h : isC l = true) : fromV (toV l) = l := by
  have := isC_yes h
  unfold toV fromV
  by_cases hp : l % 2 = 1
  · rw [if_pos hp, if_pos (by omega)]; omega
  · rw [if_neg hp, if_neg (by omega)]; omega
theorem isX_toV {l : Int} (h : isC l = true) : isX (toV l) = true := by
  have := toV_bd h
  unfold isX; simp; omega

/-- Normal of a clause that has no normal form, or is wrong. -/
theorem normal_err (w : World) (v : Value) (zs : List Int) (h : Ints w v zs) (he : ¬ (wrongE zs = 0 ∧ taut zs = false)) :
    Calls Try.prog 18 #[v] w fun e w' => ∃ E : Int, e = .returned (.tuple #[.slice none 0 0, .int .i64 E]) ∧ E ≠ 0 ∧ Below w.heap.size w w' := by
  refine (Normal_any w v zs h).mono ?_
  rintro e w' ⟨hb, (⟨h1, rfl⟩ | ⟨_, _, rfl⟩ | ⟨h1, h2, _⟩)⟩
  · exact ⟨_, rfl, h1, hb⟩
  · exact ⟨_, rfl, by decide, hb⟩
  · exact absurd ⟨h1, h2⟩ he

theorem normal_good (w : World) (v : Value) (zs : List Int) (h : Ints w v zs) (h1 : wrongE zs = 0) (h2 : taut zs = false) :
    Calls Try.prog 18 #[v] w fun e w' => ∃ ns v', e = .returned (.tuple #[v', .int .i64 0]) ∧ Below w.heap.size w w' ∧ NF zs ns ∧ Owns w.heap.size w' v' ns := by
  refine (Normal_any w v zs h).mono ?_
  rintro e w' ⟨hb, (⟨h3, rfl⟩ | ⟨_, h3, rfl⟩ | ⟨_, _, ns, v', rfl, hnf, ho⟩)⟩
  · exact absurd h1 h3
  · rw [h2] at h3; cases h3
  · exact ⟨ns, v', rfl, hb, hnf, ho⟩

/-- What the loop asks of two neighbours. -/
theorem rising_step {ns : List Int} {m : Nat} {a b : Int} (hn : NCl ns) (hm : m + 1 < ns.length) (ha : ns.getD m 0 = a) (hb : ns.getD (m + 1) 0 = b) :
    ¬ max b (-b) ≤ max a (-a) ∧ -262144 ≤ a ∧ a ≤ 262144 ∧ -262144 ≤ b ∧ b ≤ 262144 := by
  have hp := List.pairwise_iff_getElem.1 hn.1 m (m + 1) (by omega) hm (by omega)
  simp [List.getD, hm, show m < ns.length by omega] at ha hb
  rw [ha, hb] at hp
  have f1 := isF_yes (List.all_eq_true.1 hn.2 _ (List.getElem_mem (show m < ns.length by omega)))
  have f2 := isF_yes (List.all_eq_true.1 hn.2 _ (List.getElem_mem hm))
  rw [ha] at f1
  rw [hb] at f2
  unfold absI at hp
  omega

theorem own_ints' {w : World} {B n : Nat} {v : Value} {zs : List Int} (h : w.ownsRow B 3 1 v n (ints zs)) (hn : zs.length = n) : Ints w v zs := by
  subst hn; exact own_ints h

theorem good_one (w : World) (v : Value) (zs ns : List Int) (n : Nat) (h : Ints w v zs) (h1 : wrongE zs = 0) (h2 : taut zs = false) (h3 : NF zs ns) (hn : ns.length = n) :
    Calls Try.prog 18 #[v] w fun e w' => ∃ g cap, e = .returned (.tuple #[.slice (some ⟨g, 0, none⟩) n cap, .int .i64 0]) ∧ Below w.heap.size w w' ∧ w'.ownsRow w.heap.size 3 1 (.slice (some ⟨g, 0, none⟩) n cap) n (ints ns) := by
  subst hn
  refine (normal_good w v zs h h1 h2).mono ?_
  rintro e w' ⟨ns', v', rfl, hb, hnf, g, cap, rfl, ho⟩
  obtain rfl := hnf.unique h3
  exact ⟨g, cap, rfl, hb, ho⟩

set_option maxHeartbeats 4000000 in
set_option maxRecDepth 100000 in
theorem back_in_err (w : World) (l : Int) (v : Value) (zs : List Int) (hl : isC l = true) (h : Ints w v zs) (he : ¬ (wrongE zs = 0 ∧ taut zs = false)) :
    Calls Try.prog 7 #[.int .i64 l, v] w fun e w' => e = .returned (.bool true) ∧ Below w.heap.size w w' := by
  have hw := works_any w
  have HI := Lib.hid h
  have HE := Lib.hid he
  clear h he
  have hA := fun w => Not_yes l w hl
  have hB := fun w => Not_yes (notV l) w (isC_notV hl)
  have hC := fun w => To_yes l w hl
  have hD := fun w => To_yes (notV l) w (isC_notV hl)
  have hE := fun w => From_yes (toV l) w (isX_toV hl)
  rw [notV_notV hl] at hB
  rw [toV_notV hl] at hD
  rw [fromV_toV hl] at hE
  have hx := toV_bd hl
  generalize notV l = n at hA hB hD
  generalize toV l = x at hC hD hE hx
  obtain ⟨hx1, hx2, _⟩ := hx
  have t1 : (l != l) = false := by simp
  have t2 : (-x != -x) = false := by simp
  have t3 : (l == l) = true := by simp
  have t4 : (-x == -x) = true := by simp
  clear hl
  go_enter Try.func7, Try.ntmps7
  go_wp2_with (first
    | (go_at_call 16; refine hw.mono ?_; rintro e w1 ⟨rfl, hb1⟩; have HB1 := Lib.hid hb1; clear hb1)
    | (go_at_call 9; with_reducible refine (hA _).mono ?_; rintro e w' ⟨rfl, rfl⟩)
    | (go_at_call 9; with_reducible refine (hB _).mono ?_; rintro e w' ⟨rfl, rfl⟩)
    | (go_at_call 11; with_reducible refine (hC _).mono ?_; rintro e w' ⟨rfl, rfl⟩)
    | (go_at_call 11; with_reducible refine (hD _).mono ?_; rintro e w' ⟨rfl, rfl⟩)
    | (go_at_call 13; with_reducible refine (hE _).mono ?_; rintro e w' ⟨rfl, rfl⟩)
    | (go_at_call 18; refine (normal_err w1 v zs (HI.out.below HB1.out) HE.out).mono ?_; rintro e w2 ⟨E, rfl, hE0, hb2⟩; have q1 : (E != 0) = true := (by simpa using hE0); have q2 : (E == 0) = false := (by simpa using hE0); have HB2 := Lib.hid hb2; clear hb2 hE0))
  go_ret
  exact ⟨rfl, bt HB1.out (Nat.le_refl _) HB2.out⟩

set_option maxHeartbeats 4000000 in
set_option maxRecDepth 100000 in
theorem back_out_err (w : World) (l : Int) (v : Value) (zs : List Int) (hl : isC l = false) (h : Ints w v zs) (he : ¬ (wrongE zs = 0 ∧ taut zs = false)) :
    Calls Try.prog 7 #[.int .i64 l, v] w fun e w' => e = .returned (.bool true) ∧ Below w.heap.size w w' := by
  have hw := works_any w
  have HI := Lib.hid h
  have HE := Lib.hid he
  clear h he
  have hA := fun w => Not_no l w hl
  have hl2 : l < 0 ∨ 32769 < l := isC_no hl
  clear hl
  rcases hl2 with hl2 | hl2
  · have d1 : decide (0 ≤ l) = false := by simpa using hl2
    go_enter Try.func7, Try.ntmps7
    go_wp2_with (first
    | (go_at_call 16; refine hw.mono ?_; rintro e w1 ⟨rfl, hb1⟩; have HB1 := Lib.hid hb1; clear hb1)
    | (go_at_call 9; refine (hA _).mono ?_; rintro e w' ⟨rfl, rfl⟩)
    | (go_at_call 18; refine (normal_err w1 v zs (HI.out.below HB1.out) HE.out).mono ?_; rintro e w2 ⟨E, rfl, hE0, hb2⟩; have q1 : (E != 0) = true := (by simpa using hE0); have q2 : (E == 0) = false := (by simpa using hE0); have HB2 := Lib.hid hb2; clear hb2 hE0))
    go_ret
    exact ⟨rfl, bt HB1.out (Nat.le_refl _) HB2.out⟩
  · have d1 : 0 ≤ l := by omega
    have d2 : decide (l ≤ 32769) = false := by simpa using hl2
    go_enter Try.func7, Try.ntmps7
    go_wp2_with (first
    | (go_at_call 16; refine hw.mono ?_; rintro e w1 ⟨rfl, hb1⟩; have HB1 := Lib.hid hb1; clear hb1)
    | (go_at_call 9; refine (hA _).mono ?_; rintro e w' ⟨rfl, rfl⟩)
    | (go_at_call 18; refine (normal_err w1 v zs (HI.out.below HB1.out) HE.out).mono ?_; rintro e w2 ⟨E, rfl, hE0, hb2⟩; have q1 : (E != 0) = true := (by simpa using hE0); have q2 : (E == 0) = false := (by simpa using hE0); have HB2 := Lib.hid hb2; clear hb2 hE0))
    go_ret
    exact ⟨rfl, bt HB1.out (Nat.le_refl _) HB2.out⟩

set_option maxHeartbeats 4000000 in
set_option maxRecDepth 100000 in
theorem back_in_ok (w : World) (l : Int) (v : Value) (zs ns : List Int) (hl : isC l = true) (h : Ints w v zs) (he : wrongE zs = 0) (ht : taut zs = false) (hnf : NF zs ns) :
    Calls Try.prog 7 #[.int .i64 l, v] w fun e w' => e = .returned (.bool true) ∧ Below w.heap.size w w' := by
  have hw := works_any w
  have HI := Lib.hid h
  have HE := Lib.hid he
  have HT := Lib.hid ht
  have HNF := Lib.hid hnf
  obtain ⟨h16, hF⟩ := wrongE_zero he
  have hnc := hnf.ncl hF
  have hl9 := hnf.length_le
  have HNC := Lib.hid hnc
  have HE2 := Lib.hid (wrongE_ok (by omega) hnc.2)
  have HNF2 : Hid (NF ns ns) := ⟨hnc.1, fun _ => Iff.rfl⟩
  have HT2 := Lib.hid (HNF2.out.no_taut (fun x hx => (isF_yes (List.all_eq_true.1 hnc.2 x hx)).1))
  generalize hlen : ns.length = n9 at *
  have HLEN := Lib.hid hlen
  have h9 : n9 ≤ 16384 := by omega
  clear h he ht hnf h16 hF hnc hl9 hlen
  have hA := fun w => Not_yes l w hl
  have hB := fun w => Not_yes (notV l) w (isC_notV hl)
  have hC := fun w => To_yes l w hl
  have hD := fun w => To_yes (notV l) w (isC_notV hl)
  have hE := fun w => From_yes (toV l) w (isX_toV hl)
  rw [notV_notV hl] at hB
  rw [toV_notV hl] at hD
  rw [fromV_toV hl] at hE
  have hx := toV_bd hl
  generalize notV l = n at hA hB hD
  generalize toV l = x at hC hD hE hx
  obtain ⟨hx1, hx2, _⟩ := hx
  have t1 : (l != l) = false := by simp
  have t2 : (-x != -x) = false := by simp
  have t3 : (l == l) = true := by simp
  have t4 : (-x == -x) = true := by simp
  clear hl
  go_enter Try.func7, Try.ntmps7
  go_wp2_with (first
    | (go_at_call 16; refine hw.mono ?_; rintro e w1 ⟨rfl, hb1⟩; have HB1 := Lib.hid hb1; clear hb1)
    | (go_at_call 9; with_reducible refine (hA _).mono ?_; rintro e w' ⟨rfl, rfl⟩)
    | (go_at_call 9; with_reducible refine (hB _).mono ?_; rintro e w' ⟨rfl, rfl⟩)
    | (go_at_call 11; with_reducible refine (hC _).mono ?_; rintro e w' ⟨rfl, rfl⟩)
    | (go_at_call 11; with_reducible refine (hD _).mono ?_; rintro e w' ⟨rfl, rfl⟩)
    | (go_at_call 13; with_reducible refine (hE _).mono ?_; rintro e w' ⟨rfl, rfl⟩)
    | (go_at_call 18; with_reducible refine (good_one w1 v zs ns n9 (HI.out.below HB1.out) HE.out HT.out HNF.out HLEN.out).mono ?_; rintro e w2 ⟨g2, c2, rfl, hb2, ho2⟩; have HB2 := Lib.hid hb2; have HO2 := Lib.hid ho2; clear hb2 ho2)
    | (go_at_call 18; with_reducible refine (good_one w2 _ ns ns n9 (own_ints' HO2.out HLEN.out) HE2.out HT2.out HNF2.out HLEN.out).mono ?_; rintro e w3 ⟨g3, c3, rfl, hb3, ho3⟩; have HB3 := Lib.hid hb3; have HO3 := Lib.hid ho3; clear hb3 ho3))
  have HC2 : Hid (∀ k, k < n9 → w3.cell? ⟨g2, k, none⟩ = some (.int .i64 (ns.getD k 0))) := fun k hk => own_cell (own_below HO2.out HB3.out) k (by rw [HLEN.out]; exact hk)
  have HC3 : Hid (∀ k, k < n9 → w3.cell? ⟨g3, k, none⟩ = some (.int .i64 (ns.getD k 0))) := fun k hk => own_cell HO3.out k (by rw [HLEN.out]; exact hk)
  have HG2 := Lib.hid ((own_below HO2.out HB3.out).lt g2 rfl).2
  have HG3 := Lib.hid (HO3.out.lt g3 rfl).2
  go_loopw [18, 114] (fun _ i wr => ∃ k : Nat, k ≤ n9 ∧ i = .int .i64 k ∧ Below w3.heap.size w3 wr) (fun _ i _ => n9 - (intOf i).toNat)
  case atStart => exact ⟨0, Nat.zero_le _, rfl, Below.refl _ _⟩
  case round =>
    obtain ⟨k, hk, rfl, hbw⟩ := hrel
    by_cases hlt : k < n9
    · have hcx := ((hbw.cell (p := ⟨g2, k, none⟩) HG2.out).trans (HC2.out k hlt))
      have hcy := ((hbw.cell (p := ⟨g3, k, none⟩) HG3.out).trans (HC3.out k hlt))
      generalize hb0 : ns.getD k 0 = b at hcx hcy
      have HBB := Lib.hid hb0
      clear hb0
      have q3 : (b != b) = false := by simp
      have q4 : (b == b) = true := by simp
      by_cases hk0 : k = 0
      · subst hk0
        go_wp2
        go_quiet (fail)
        go_wp2
        go_roundw
        case rel => exact ⟨1, by omega, by go_num, below_drewN hbw _⟩
        case measure => simp [intOf]; omega
      · obtain ⟨m, rfl⟩ : ∃ m, k = m + 1 := ⟨k - 1, by omega⟩
        have hcp := ((hbw.cell (p := ⟨g2, m, none⟩) HG2.out).trans (HC2.out m (by omega)))
        generalize ha0 : ns.getD m 0 = a at hcp
        obtain ⟨hr1, hr2, hr3, hr4, hr5⟩ := rising_step HNC.out (by rw [HLEN.out]; exact hlt) ha0 HBB.out
        clear ha0
        have hs1 : IntKind.i64.wrap (((m + 1 : Nat) : Int) - 1) = (m : Int) := by rw [IntKind.wrap_i64]; omega
        have hs2 : IntKind.i64.wrap (-b) = -b := by rw [IntKind.wrap_i64]; omega
        have hs3 : IntKind.i64.wrap (-a) = -a := by rw [IntKind.wrap_i64]; omega
        have hd : decide (max b (-b) ≤ max a (-a)) = false := by simpa using hr1
        go_wp2
        go_quiet (fail)
        go_wp2
        go_roundw
        case rel => exact ⟨m + 1 + 1, by omega, by go_num, below_drewN hbw _⟩
        case measure => simp [intOf]; omega
    · have e : k = n9 := by omega
      subst e
      go_wp2
      go_ret
      exact ⟨rfl, bt (bt (bt HB1.out (Nat.le_refl _) HB2.out) (Nat.le_refl _) HB3.out) (Nat.le_refl _) hbw⟩

set_option maxHeartbeats 4000000 in
set_option maxRecDepth 100000 in
theorem back_out_ok (w : World) (l : Int) (v : Value) (zs ns : List Int) (hl : isC l = false) (h : Ints w v zs) (he : wrongE zs = 0) (ht : taut zs = false) (hnf : NF zs ns) :
    Calls Try.prog 7 #[.int .i64 l, v] w fun e w' => e = .returned (.bool true) ∧ Below w.heap.size w w' := by
  have hw := works_any w
  have HI := Lib.hid h
  have HE := Lib.hid he
  have HT := Lib.hid ht
  have HNF := Lib.hid hnf
  obtain ⟨h16, hF⟩ := wrongE_zero he
  have hnc := hnf.ncl hF
  have hl9 := hnf.length_le
  have HNC := Lib.hid hnc
  have HE2 := Lib.hid (wrongE_ok (by omega) hnc.2)
  have HNF2 : Hid (NF ns ns) := ⟨hnc.1, fun _ => Iff.rfl⟩
  have HT2 := Lib.hid (HNF2.out.no_taut (fun x hx => (isF_yes (List.all_eq_true.1 hnc.2 x hx)).1))
  generalize hlen : ns.length = n9 at *
  have HLEN := Lib.hid hlen
  have h9 : n9 ≤ 16384 := by omega
  clear h he ht hnf h16 hF hnc hl9 hlen
  have hA := fun w => Not_no l w hl
  have hl2 : l < 0 ∨ 32769 < l := isC_no hl
  clear hl
  rcases hl2 with hl2 | hl2
  · have d1 : decide (0 ≤ l) = false := by simpa using hl2
    go_enter Try.func7, Try.ntmps7
    go_wp2_with (first
    | (go_at_call 16; refine hw.mono ?_; rintro e w1 ⟨rfl, hb1⟩; have HB1 := Lib.hid hb1; clear hb1)
    | (go_at_call 9; refine (hA _).mono ?_; rintro e w' ⟨rfl, rfl⟩)
    | (go_at_call 18; with_reducible refine (good_one w1 v zs ns n9 (HI.out.below HB1.out) HE.out HT.out HNF.out HLEN.out).mono ?_; rintro e w2 ⟨g2, c2, rfl, hb2, ho2⟩; have HB2 := Lib.hid hb2; have HO2 := Lib.hid ho2; clear hb2 ho2)
    | (go_at_call 18; with_reducible refine (good_one w2 _ ns ns n9 (own_ints' HO2.out HLEN.out) HE2.out HT2.out HNF2.out HLEN.out).mono ?_; rintro e w3 ⟨g3, c3, rfl, hb3, ho3⟩; have HB3 := Lib.hid hb3; have HO3 := Lib.hid ho3; clear hb3 ho3))
    have HC2 : Hid (∀ k, k < n9 → w3.cell? ⟨g2, k, none⟩ = some (.int .i64 (ns.getD k 0))) := fun k hk => own_cell (own_below HO2.out HB3.out) k (by rw [HLEN.out]; exact hk)
    have HC3 : Hid (∀ k, k < n9 → w3.cell? ⟨g3, k, none⟩ = some (.int .i64 (ns.getD k 0))) := fun k hk => own_cell HO3.out k (by rw [HLEN.out]; exact hk)
    have HG2 := Lib.hid ((own_below HO2.out HB3.out).lt g2 rfl).2
    have HG3 := Lib.hid (HO3.out.lt g3 rfl).2
    go_loopw [18, 114] (fun _ i wr => ∃ k : Nat, k ≤ n9 ∧ i = .int .i64 k ∧ Below w3.heap.size w3 wr) (fun _ i _ => n9 - (intOf i).toNat)
    case atStart => exact ⟨0, Nat.zero_le _, rfl, Below.refl _ _⟩
    case round =>
      obtain ⟨k, hk, rfl, hbw⟩ := hrel
      by_cases hlt : k < n9
      · have hcx := ((hbw.cell (p := ⟨g2, k, none⟩) HG2.out).trans (HC2.out k hlt))
        have hcy := ((hbw.cell (p := ⟨g3, k, none⟩) HG3.out).trans (HC3.out k hlt))
        generalize hb0 : ns.getD k 0 = b at hcx hcy
        have HBB := Lib.hid hb0
        clear hb0
        have q3 : (b != b) = false := by simp
        have q4 : (b == b) = true := by simp
        by_cases hk0 : k = 0
        · subst hk0
          go_wp2
          go_quiet (fail)
          go_wp2
          go_roundw
          case rel => exact ⟨1, by omega, by go_num, below_drewN hbw _⟩
          case measure => simp [intOf]; omega
        · obtain ⟨m, rfl⟩ : ∃ m, k = m + 1 := ⟨k - 1, by omega⟩
          have hcp := ((hbw.cell (p := ⟨g2, m, none⟩) HG2.out).trans (HC2.out m (by omega)))
          generalize ha0 : ns.getD m 0 = a at hcp
          obtain ⟨hr1, hr2, hr3, hr4, hr5⟩ := rising_step HNC.out (by rw [HLEN.out]; exact hlt) ha0 HBB.out
          clear ha0
          have hs1 : IntKind.i64.wrap (((m + 1 : Nat) : Int) - 1) = (m : Int) := by rw [IntKind.wrap_i64]; omega
          have hs2 : IntKind.i64.wrap (-b) = -b := by rw [IntKind.wrap_i64]; omega
          have hs3 : IntKind.i64.wrap (-a) = -a := by rw [IntKind.wrap_i64]; omega
          have hd : decide (max b (-b) ≤ max a (-a)) = false := by simpa using hr1
          go_wp2
          go_quiet (fail)
          go_wp2
          go_roundw
          case rel => exact ⟨m + 1 + 1, by omega, by go_num, below_drewN hbw _⟩
          case measure => simp [intOf]; omega
      · have e : k = n9 := by omega
        subst e
        go_wp2
        go_ret
        exact ⟨rfl, bt (bt (bt HB1.out (Nat.le_refl _) HB2.out) (Nat.le_refl _) HB3.out) (Nat.le_refl _) hbw⟩
  · have d1 : 0 ≤ l := by omega
    have d2 : decide (l ≤ 32769) = false := by simpa using hl2
    go_enter Try.func7, Try.ntmps7
    go_wp2_with (first
    | (go_at_call 16; refine hw.mono ?_; rintro e w1 ⟨rfl, hb1⟩; have HB1 := Lib.hid hb1; clear hb1)
    | (go_at_call 9; refine (hA _).mono ?_; rintro e w' ⟨rfl, rfl⟩)
    | (go_at_call 18; with_reducible refine (good_one w1 v zs ns n9 (HI.out.below HB1.out) HE.out HT.out HNF.out HLEN.out).mono ?_; rintro e w2 ⟨g2, c2, rfl, hb2, ho2⟩; have HB2 := Lib.hid hb2; have HO2 := Lib.hid ho2; clear hb2 ho2)
    | (go_at_call 18; with_reducible refine (good_one w2 _ ns ns n9 (own_ints' HO2.out HLEN.out) HE2.out HT2.out HNF2.out HLEN.out).mono ?_; rintro e w3 ⟨g3, c3, rfl, hb3, ho3⟩; have HB3 := Lib.hid hb3; have HO3 := Lib.hid ho3; clear hb3 ho3))
    have HC2 : Hid (∀ k, k < n9 → w3.cell? ⟨g2, k, none⟩ = some (.int .i64 (ns.getD k 0))) := fun k hk => own_cell (own_below HO2.out HB3.out) k (by rw [HLEN.out]; exact hk)
    have HC3 : Hid (∀ k, k < n9 → w3.cell? ⟨g3, k, none⟩ = some (.int .i64 (ns.getD k 0))) := fun k hk => own_cell HO3.out k (by rw [HLEN.out]; exact hk)
    have HG2 := Lib.hid ((own_below HO2.out HB3.out).lt g2 rfl).2
    have HG3 := Lib.hid (HO3.out.lt g3 rfl).2
    go_loopw [18, 114] (fun _ i wr => ∃ k : Nat, k ≤ n9 ∧ i = .int .i64 k ∧ Below w3.heap.size w3 wr) (fun _ i _ => n9 - (intOf i).toNat)
    case atStart => exact ⟨0, Nat.zero_le _, rfl, Below.refl _ _⟩
    case round =>
      obtain ⟨k, hk, rfl, hbw⟩ := hrel
      by_cases hlt : k < n9
      · have hcx := ((hbw.cell (p := ⟨g2, k, none⟩) HG2.out).trans (HC2.out k hlt))
        have hcy := ((hbw.cell (p := ⟨g3, k, none⟩) HG3.out).trans (HC3.out k hlt))
        generalize hb0 : ns.getD k 0 = b at hcx hcy
        have HBB := Lib.hid hb0
        clear hb0
        have q3 : (b != b) = false := by simp
        have q4 : (b == b) = true := by simp
        by_cases hk0 : k = 0
        · subst hk0
          go_wp2
          go_quiet (fail)
          go_wp2
          go_roundw
          case rel => exact ⟨1, by omega, by go_num, below_drewN hbw _⟩
          case measure => simp [intOf]; omega
        · obtain ⟨m, rfl⟩ : ∃ m, k = m + 1 := ⟨k - 1, by omega⟩
          have hcp := ((hbw.cell (p := ⟨g2, m, none⟩) HG2.out).trans (HC2.out m (by omega)))
          generalize ha0 : ns.getD m 0 = a at hcp
          obtain ⟨hr1, hr2, hr3, hr4, hr5⟩ := rising_step HNC.out (by rw [HLEN.out]; exact hlt) ha0 HBB.out
          clear ha0
          have hs1 : IntKind.i64.wrap (((m + 1 : Nat) : Int) - 1) = (m : Int) := by rw [IntKind.wrap_i64]; omega
          have hs2 : IntKind.i64.wrap (-b) = -b := by rw [IntKind.wrap_i64]; omega
          have hs3 : IntKind.i64.wrap (-a) = -a := by rw [IntKind.wrap_i64]; omega
          have hd : decide (max b (-b) ≤ max a (-a)) = false := by simpa using hr1
          go_wp2
          go_quiet (fail)
          go_wp2
          go_roundw
          case rel => exact ⟨m + 1 + 1, by omega, by go_num, below_drewN hbw _⟩
          case measure => simp [intOf]; omega
      · have e : k = n9 := by omega
        subst e
        go_wp2
        go_ret
        exact ⟨rfl, bt (bt (bt HB1.out (Nat.le_refl _) HB2.out) (Nat.le_refl _) HB3.out) (Nat.le_refl _) hbw⟩

end Go.Proofs.Ytcppmjgglcobcaa

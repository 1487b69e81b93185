/- The document's Meet and Differ. -/
import Derived.Test.YthchemgkfjmhjaaJoin
import Derived.Test.YthchemgkfjmhjaaRefRow
namespace Go.Proofs.Ythchemgkfjmhjaa
open Go.RowKit

theorem half_pow (X k : Nat) : X / 2 ^ k / 2 = X / 2 ^ (k + 1) := by rw [Nat.div_div_eq_div_mul, Nat.pow_succ]
theorem mod_bit (X k : Nat) : X / 2 ^ k % 2 = (X.testBit k).toNat := by
  rw [Nat.testBit_eq_decide_div_mod_eq]
  have : X / 2 ^ k % 2 = 0 ∨ X / 2 ^ k % 2 = 1 := by omega
  rcases this with h | h <;> simp [h]
/-- 2 to the k, so long as it is a word. -/
def unitAt (k : Nat) : Nat := if k < 64 then 2 ^ k else 0
theorem unitAt_lt (k : Nat) : unitAt k < 18446744073709551616 := by
  unfold unitAt
  split
  · rename_i h
    exact Nat.pow_lt_pow_right (by omega) h
  · omega
theorem unitAt_next {k : Nat} (h : k < 64) : unitAt k * 2 % 18446744073709551616 = unitAt (k + 1) := by
  unfold unitAt
  rw [if_pos h]
  by_cases h2 : k + 1 < 64
  · rw [if_pos h2, ← Nat.pow_succ]
    exact Nat.mod_eq_of_lt (Nat.pow_lt_pow_right (by omega) h2)
  · rw [if_neg h2, show k = 63 by omega]

def fbMeet (X Y j : Nat) : Bool := X.testBit j && Y.testBit j
theorem fbMeet_all {X Y : Nat} (hx : X < 2 ^ 64) (_hy : Y < 2 ^ 64) : nb (fbMeet X Y) 64 = X &&& Y := by
  refine eq_of_bits (nb_lt _ _) (Nat.lt_of_le_of_lt Nat.and_le_left hx) fun j hj => ?_
  rw [nb_bit, Nat.testBit_and]
  simp [hj, fbMeet]

set_option maxHeartbeats 1000000 in
theorem mix_Meet_bad (w : World) (v u : Value) (ps qs : List Nat) (h : Row w v (wds ps)) (h' : Row w u (wds qs)) (hE : twoE ps qs ≠ 0) :
    Calls Try.prog 49 #[v, u, .bool true] w fun e w' => e = .returned (.tuple #[.slice none 0 0, .int .i64 (twoE ps qs)]) ∧ w = w' := by
  have hlen := h.len
  have hlen' := h'.len
  rw [List.length_map] at hlen hlen'
  unfold maxLen at hlen hlen'
  obtain ⟨A, c, rfl, _, _, _⟩ := h
  obtain ⟨A', c', rfl, _, _, _⟩ := h'
  rw [List.length_map, List.length_map]
  have HE := Lib.hid hE
  clear hE
  by_cases g1 : 16384 < ps.length
  · rw [twoE_long (.inl g1)]
    go_enter Try.func49, Try.ntmps49
    go_wp2
    go_ret2
    exact ⟨rfl, rfl⟩
  · by_cases g2 : 16384 < qs.length
    · rw [twoE_long (.inr g2)]
      go_enter Try.func49, Try.ntmps49
      go_wp2
      go_ret2
      exact ⟨rfl, rfl⟩
    · have hne : ps.length ≠ qs.length := fun e => HE.out (twoE_ok (by omega) e)
      rw [twoE_ne (by omega) (by omega) hne]
      have q : ((ps.length : Int) != (qs.length : Int)) = true := by simp; omega
      clear hne
      go_enter Try.func49, Try.ntmps49
      go_wp2
      go_ret2
      exact ⟨rfl, rfl⟩

set_option maxHeartbeats 4000000 in
set_option maxRecDepth 100000 in
theorem mix_Meet_ok (w : World) (v u : Value) (ps qs : List Nat) (h : Row w v (wds ps)) (h' : Row w u (wds qs)) (ha : ∀ x ∈ ps, x < 2 ^ 64) (hb : ∀ x ∈ qs, x < 2 ^ 64) (hE : twoE ps qs = 0) :
    Calls Try.prog 49 #[v, u, .bool true] w fun e w' => ∃ v', e = .returned (.tuple #[v', .int .i64 0]) ∧ Below w.heap.size w w' ∧ w'.ownsRow w.heap.size 32 1 v' ps.length (wds (zipW (fun x y => x &&& y) ps qs)) := by
  obtain ⟨i0, hi0, hz0, hz1, hz2⟩ := info_parts u64_info
  obtain ⟨hl, hn⟩ := twoE_zero hE
  obtain ⟨A, c, rfl, _, _, h3⟩ := h
  obtain ⟨A', c', rfl, _, _, h3'⟩ := h'
  rw [List.length_map, List.length_map, ← hn]
  have HP := Lib.hid h3
  have HQ := Lib.hid h3'
  have HM := Lib.hid hn
  have HA := Lib.hid ha
  have HB := Lib.hid hb
  generalize hN : ps.length = N at *
  have hNi : (N : Int) ≤ 16384 := by omega
  have HN := Lib.hid hN
  clear h3 h3' hn hE hN ha hb
  go_enter Try.func49, Try.ntmps49
  go_wp2
  go_loopw [8, 9] (fun q i wr => ∃ k : Nat, k ≤ N ∧ i = .int .i64 k ∧ Below w.heap.size w wr ∧ wr.ownsRow w.heap.size 32 1 q k (wds (mkw k fun i => ps.getD i 0 &&& qs.getD i 0))) (fun q i _ => N - (intOf i).toNat)
  case atStart => exact ⟨0, by omega, rfl, Below.refl _ _, World.ownsRow_nil w w.heap.size 32 1⟩
  case round =>
    obtain ⟨k, hk, rfl, hbw, how⟩ := hrel
    by_cases hlt : k < N
    · obtain ⟨b, off, rfl, _, hcell1⟩ := (HP.out.below hbw).word k (by rw [HN.out]; exact hlt)
      obtain ⟨b', off', rfl, _, hcell2⟩ := (HQ.out.below hbw).word k (by rw [← HM.out]; exact hlt)
      have hX := getD_lt HA.out k
      have hY := getD_lt HB.out k
      have hmk : mkw (k + 1) (fun i => ps.getD i 0 &&& qs.getD i 0) = mkw k (fun i => ps.getD i 0 &&& qs.getD i 0) ++ [ps.getD k 0 &&& qs.getD k 0] := by unfold mkw; rw [List.range_succ, List.map_append]; rfl
      generalize hrs' : mkw (k + 1) (fun i => ps.getD i 0 &&& qs.getD i 0) = rs' at hmk
      have HRS := Lib.hid hrs'
      clear hrs'
      generalize hrs : mkw k (fun i => ps.getD i 0 &&& qs.getD i 0) = rs at hmk how
      generalize ps.getD k 0 = X at hcell1 hX hmk
      generalize qs.getD k 0 = Y at hcell2 hY hmk
      have hXi : (X : Int) ≤ 18446744073709551615 := by omega
      have hYi : (Y : Int) ≤ 18446744073709551615 := by omega
      have hall := fbMeet_all (X := X) (Y := Y) hX hY
      have HALL := Lib.hid hall
      have HMK := Lib.hid hmk
      have HOW := Lib.hid how
      have HBW := Lib.hid hbw
      clear hbw how hmk hall hrs
      go_wp2
      go_quiet (fail)
      go_wp2
      go_loop [10, 11, 12, 13, 14] (fun x y u z i => ∃ j a b c d : Nat, j ≤ 64 ∧ i = .int .i64 j ∧ x = .int .u64 a ∧ y = .int .u64 b ∧ u = .int .u64 c ∧ z = .int .u64 d ∧ a = X / 2 ^ j ∧ b = Y / 2 ^ j ∧ c = unitAt j ∧ d = nb (fbMeet X Y) j) (fun x y u z i => 64 - (intOf i).toNat)
      case atStart => exact ⟨0, X, Y, 1, 0, by omega, rfl, rfl, rfl, rfl, rfl, by simp, by simp, by simp [unitAt], rfl⟩
      case round =>
        obtain ⟨j, a, b, c, d, hj, rfl, rfl, rfl, rfl, rfl, ha, hb, hc, hd⟩ := hrel
        have hai : (a : Int) ≤ 18446744073709551615 := by have := Nat.div_le_self X (2 ^ j); omega
        have hbi : (b : Int) ≤ 18446744073709551615 := by have := Nat.div_le_self Y (2 ^ j); omega
        have hci : (c : Int) ≤ 18446744073709551615 := by have := unitAt_lt j; omega
        have hd64 : d < 2 ^ 64 := by rw [hd]; exact Nat.lt_of_lt_of_le (nb_lt _ _) (Nat.pow_le_pow_right (by omega) hj)
        have hdi : (d : Int) ≤ 18446744073709551615 := by omega
        by_cases hj64 : j < 64
        · have hma := mod_bit X j
          have hmb := mod_bit Y j
          have hna := half_pow X j
          have hnb := half_pow Y j
          have hnc := unitAt_next hj64
          rw [← ha] at hma hna
          rw [← hb] at hmb hnb
          rw [← hc] at hnc
          have hcj : c = 2 ^ j := by rw [hc, unitAt, if_pos hj64]
          have hset := nb_set (fbMeet X Y) j
          have hskip := nb_skip (fbMeet X Y) j
          rw [← hd, ← hcj] at hset
          rw [← hd] at hskip
          have hlt1 : nb (fbMeet X Y) (j + 1) < 2 ^ 64 := Nat.lt_of_lt_of_le (nb_lt _ _) (Nat.pow_le_pow_right (by omega) (by omega))
          generalize hde : nb (fbMeet X Y) (j + 1) = d' at hset hskip hlt1
          have HDE := Lib.hid hde
          clear hde
          have hfb : fbMeet X Y j = (X.testBit j && Y.testBit j) := rfl
          generalize hfbe : fbMeet X Y j = f at hset hskip hfb
          have hwu : IntKind.u64.wrap ((c : Int) * 2) = ((c * 2 % 18446744073709551616 : Nat) : Int) := by simp [IntKind.wrap, IntKind.bits, IntKind.signed]
          generalize hcc : c * 2 % 18446744073709551616 = c' at hnc hwu
          have hcm : (c : Int) * 2 % 18446744073709551616 = (c' : Int) := by omega
          have HNA := Lib.hid hna
          have HNB := Lib.hid hnb
          have HNC := Lib.hid hnc
          have HSET := Lib.hid hset
          have HSK := Lib.hid hskip
          have HL1 := Lib.hid hlt1
          clear hna hnb hnc hset hskip hlt1 ha hb hc hd hcj hcc hfbe hd64
          cases hxb : X.testBit j <;> cases hyb : Y.testBit j
          all_goals rw [hxb] at hma hfb
          all_goals rw [hyb] at hmb hfb
          all_goals simp at hma hmb hfb
          all_goals subst hfb
          · have qa : (a : Int) % 2 = 0 := by omega
            have qb : (b : Int) % 2 = 0 := by omega
            clear hma hmb
            go_wp2
            go_round
            case rel => exact ⟨j + 1, a / 2, b / 2, c', d, by omega, by go_num, by go_num, by go_num, by go_num, by go_num, HNA.out, HNB.out, HNC.out, by rw [HDE.out, HSK.out rfl]⟩
            case measure => simp [intOf]; omega
          · have qa : (a : Int) % 2 = 0 := by omega
            have qb : (b : Int) % 2 = 1 := by omega
            clear hma hmb
            go_wp2
            go_round
            case rel => exact ⟨j + 1, a / 2, b / 2, c', d, by omega, by go_num, by go_num, by go_num, by go_num, by go_num, HNA.out, HNB.out, HNC.out, by rw [HDE.out, HSK.out rfl]⟩
            case measure => simp [intOf]; omega
          · have qa : (a : Int) % 2 = 1 := by omega
            have qb : (b : Int) % 2 = 0 := by omega
            clear hma hmb
            go_wp2
            go_round
            case rel => exact ⟨j + 1, a / 2, b / 2, c', d, by omega, by go_num, by go_num, by go_num, by go_num, by go_num, HNA.out, HNB.out, HNC.out, by rw [HDE.out, HSK.out rfl]⟩
            case measure => simp [intOf]; omega
          · have qa : (a : Int) % 2 = 1 := by omega
            have qb : (b : Int) % 2 = 1 := by omega
            clear hma hmb
            have hdc : (d : Int) + (c : Int) ≤ 18446744073709551615 := by have := HSET.out rfl; have := HL1.out; omega
            go_wp2
            go_round
            case rel => exact ⟨j + 1, a / 2, b / 2, c', d + c, by omega, by go_num, by go_num, by go_num, by go_num, by go_num, HNA.out, HNB.out, HNC.out, by rw [HDE.out, HSET.out rfl]⟩
            case measure => simp [intOf]; omega
        · have hj4 : j = 64 := by omega
          subst hj4
          rw [HALL.out] at hd
          have HD := Lib.hid hd
          clear ha hb hc hd hd64
          go_wp2_with (at_builtin; refine wpList_append_any _ rfl (.tmp 76) (.tmp 78) _ rfl w.heap.size 32 i0 _ 1 8 Try.underlying23 hi0 hz0 hz1 hz2 rfl (by omega) u8 k (wds rs) rfl (World.ownsRow.alloc (w := wr.drewN nq) HOW.out _) (wr.heap.size + 1) (some ⟨wr.heap.size, 0, none⟩) 1 1 [.int .u64 (d : Int)] rfl (reads_one _ _ _) (by simp [Value.oneCell']) (by simp only [maxLen]; omega) (by omega) (by have := HBW.out.size; simp; omega) ?_; intro v2 w2 hown2 hg2 hat2; have HB2 := Lib.hid (((below_drewN HBW.out nq).alloc HBW.out.size (.cells #[Value.int .u64 (d : Int)] 32)).grown hg2 (by have := HBW.out.size; simp; omega) (fun k hk => (HOW.out.lt k hk).1)); have HO2 := Lib.hid hown2; clear hown2 hg2 hat2)
          go_roundw
          case rel => exact ⟨k + 1, by omega, by go_num, HB2.out, by rw [HRS.out, HMK.out, ← HD.out]; simpa using HO2.out⟩
          case measure => simp [intOf]; omega
    · have : k = N := by omega
      subst this
      have e : mkw k (fun i => ps.getD i 0 &&& qs.getD i 0) = zipW (fun x y => x &&& y) ps qs := by unfold zipW; rw [HN.out]
      rw [e] at how
      have HOW := Lib.hid how
      have HBW := Lib.hid hbw
      clear how hbw e
      go_wp2
      go_ret2
      exact ⟨_, rfl, HBW.out, HOW.out⟩

theorem RMeet_bad (w : World) (v u : Value) (ps qs : List Nat) (h : Row w v (wds ps)) (h' : Row w u (wds qs)) (hE : twoE ps qs ≠ 0) :
    Calls Try.prog 30 #[v, u] w fun e w' => e = .returned (.tuple #[.slice none 0 0, .int .i64 (twoE ps qs)]) ∧ w = w' := by
  have hj := mix_Meet_bad w v u ps qs h h' hE
  generalize twoE ps qs = x at hj ⊢
  clear hE h h'
  go_enter Try.func30, Try.ntmps30
  go_wp2_with (go_at_call 49; refine hj.mono ?_; rintro e w' ⟨rfl, rfl⟩)
  go_ret2
  exact ⟨rfl, rfl⟩
theorem RMeet_ok (w : World) (v u : Value) (ps qs : List Nat) (h : Row w v (wds ps)) (h' : Row w u (wds qs)) (ha : ∀ x ∈ ps, x < 2 ^ 64) (hb : ∀ x ∈ qs, x < 2 ^ 64) (hE : twoE ps qs = 0) :
    Calls Try.prog 30 #[v, u] w fun e w' => ∃ v', e = .returned (.tuple #[v', .int .i64 0]) ∧ Below w.heap.size w w' ∧ w'.ownsRow w.heap.size 32 1 v' ps.length (wds (zipW (fun x y => x &&& y) ps qs)) := by
  have hj := mix_Meet_ok w v u ps qs h h' ha hb hE
  have HJ := Lib.hid hj
  clear hE h h' ha hb hj
  go_enter Try.func30, Try.ntmps30
  go_wp2_with (go_at_call 49; refine HJ.out.mono ?_; rintro e w1 ⟨v', rfl, hb1, ho1⟩)
  go_ret2
  exact ⟨_, rfl, hb1, ho1⟩

def fbDiffer (X Y j : Nat) : Bool := X.testBit j ^^ Y.testBit j
theorem fbDiffer_all {X Y : Nat} (hx : X < 2 ^ 64) (hy : Y < 2 ^ 64) : nb (fbDiffer X Y) 64 = X ^^^ Y := by
  refine eq_of_bits (nb_lt _ _) (Nat.xor_lt_two_pow hx hy) fun j hj => ?_
  rw [nb_bit, Nat.testBit_xor]
  simp [hj, fbDiffer]

set_option maxHeartbeats 1000000 in
theorem mix_Differ_bad (w : World) (v u : Value) (ps qs : List Nat) (h : Row w v (wds ps)) (h' : Row w u (wds qs)) (hE : twoE ps qs ≠ 0) :
    Calls Try.prog 49 #[v, u, .bool false] w fun e w' => e = .returned (.tuple #[.slice none 0 0, .int .i64 (twoE ps qs)]) ∧ w = w' := by
  have hlen := h.len
  have hlen' := h'.len
  rw [List.length_map] at hlen hlen'
  unfold maxLen at hlen hlen'
  obtain ⟨A, c, rfl, _, _, _⟩ := h
  obtain ⟨A', c', rfl, _, _, _⟩ := h'
  rw [List.length_map, List.length_map]
  have HE := Lib.hid hE
  clear hE
  by_cases g1 : 16384 < ps.length
  · rw [twoE_long (.inl g1)]
    go_enter Try.func49, Try.ntmps49
    go_wp2
    go_ret2
    exact ⟨rfl, rfl⟩
  · by_cases g2 : 16384 < qs.length
    · rw [twoE_long (.inr g2)]
      go_enter Try.func49, Try.ntmps49
      go_wp2
      go_ret2
      exact ⟨rfl, rfl⟩
    · have hne : ps.length ≠ qs.length := fun e => HE.out (twoE_ok (by omega) e)
      rw [twoE_ne (by omega) (by omega) hne]
      have q : ((ps.length : Int) != (qs.length : Int)) = true := by simp; omega
      clear hne
      go_enter Try.func49, Try.ntmps49
      go_wp2
      go_ret2
      exact ⟨rfl, rfl⟩

set_option maxHeartbeats 4000000 in
set_option maxRecDepth 100000 in
theorem mix_Differ_ok (w : World) (v u : Value) (ps qs : List Nat) (h : Row w v (wds ps)) (h' : Row w u (wds qs)) (ha : ∀ x ∈ ps, x < 2 ^ 64) (hb : ∀ x ∈ qs, x < 2 ^ 64) (hE : twoE ps qs = 0) :
    Calls Try.prog 49 #[v, u, .bool false] w fun e w' => ∃ v', e = .returned (.tuple #[v', .int .i64 0]) ∧ Below w.heap.size w w' ∧ w'.ownsRow w.heap.size 32 1 v' ps.length (wds (zipW (fun x y => x ^^^ y) ps qs)) := by
  obtain ⟨i0, hi0, hz0, hz1, hz2⟩ := info_parts u64_info
  obtain ⟨hl, hn⟩ := twoE_zero hE
  obtain ⟨A, c, rfl, _, _, h3⟩ := h
  obtain ⟨A', c', rfl, _, _, h3'⟩ := h'
  rw [List.length_map, List.length_map, ← hn]
  have HP := Lib.hid h3
  have HQ := Lib.hid h3'
  have HM := Lib.hid hn
  have HA := Lib.hid ha
  have HB := Lib.hid hb
  generalize hN : ps.length = N at *
  have hNi : (N : Int) ≤ 16384 := by omega
  have HN := Lib.hid hN
  clear h3 h3' hn hE hN ha hb
  go_enter Try.func49, Try.ntmps49
  go_wp2
  go_loopw [8, 9] (fun q i wr => ∃ k : Nat, k ≤ N ∧ i = .int .i64 k ∧ Below w.heap.size w wr ∧ wr.ownsRow w.heap.size 32 1 q k (wds (mkw k fun i => ps.getD i 0 ^^^ qs.getD i 0))) (fun q i _ => N - (intOf i).toNat)
  case atStart => exact ⟨0, by omega, rfl, Below.refl _ _, World.ownsRow_nil w w.heap.size 32 1⟩
  case round =>
    obtain ⟨k, hk, rfl, hbw, how⟩ := hrel
    by_cases hlt : k < N
    · obtain ⟨b, off, rfl, _, hcell1⟩ := (HP.out.below hbw).word k (by rw [HN.out]; exact hlt)
      obtain ⟨b', off', rfl, _, hcell2⟩ := (HQ.out.below hbw).word k (by rw [← HM.out]; exact hlt)
      have hX := getD_lt HA.out k
      have hY := getD_lt HB.out k
      have hmk : mkw (k + 1) (fun i => ps.getD i 0 ^^^ qs.getD i 0) = mkw k (fun i => ps.getD i 0 ^^^ qs.getD i 0) ++ [ps.getD k 0 ^^^ qs.getD k 0] := by unfold mkw; rw [List.range_succ, List.map_append]; rfl
      generalize hrs' : mkw (k + 1) (fun i => ps.getD i 0 ^^^ qs.getD i 0) = rs' at hmk
      have HRS := Lib.hid hrs'
      clear hrs'
      generalize hrs : mkw k (fun i => ps.getD i 0 ^^^ qs.getD i 0) = rs at hmk how
      generalize ps.getD k 0 = X at hcell1 hX hmk
      generalize qs.getD k 0 = Y at hcell2 hY hmk
      have hXi : (X : Int) ≤ 18446744073709551615 := by omega
      have hYi : (Y : Int) ≤ 18446744073709551615 := by omega
      have hall := fbDiffer_all (X := X) (Y := Y) hX hY
      have HALL := Lib.hid hall
      have HMK := Lib.hid hmk
      have HOW := Lib.hid how
      have HBW := Lib.hid hbw
      clear hbw how hmk hall hrs
      go_wp2
      go_quiet (fail)
      go_wp2
      go_loop [10, 11, 12, 13, 14] (fun x y u z i => ∃ j a b c d : Nat, j ≤ 64 ∧ i = .int .i64 j ∧ x = .int .u64 a ∧ y = .int .u64 b ∧ u = .int .u64 c ∧ z = .int .u64 d ∧ a = X / 2 ^ j ∧ b = Y / 2 ^ j ∧ c = unitAt j ∧ d = nb (fbDiffer X Y) j) (fun x y u z i => 64 - (intOf i).toNat)
      case atStart => exact ⟨0, X, Y, 1, 0, by omega, rfl, rfl, rfl, rfl, rfl, by simp, by simp, by simp [unitAt], rfl⟩
      case round =>
        obtain ⟨j, a, b, c, d, hj, rfl, rfl, rfl, rfl, rfl, ha, hb, hc, hd⟩ := hrel
        have hai : (a : Int) ≤ 18446744073709551615 := by have := Nat.div_le_self X (2 ^ j); omega
        have hbi : (b : Int) ≤ 18446744073709551615 := by have := Nat.div_le_self Y (2 ^ j); omega
        have hci : (c : Int) ≤ 18446744073709551615 := by have := unitAt_lt j; omega
        have hd64 : d < 2 ^ 64 := by rw [hd]; exact Nat.lt_of_lt_of_le (nb_lt _ _) (Nat.pow_le_pow_right (by omega) hj)
        have hdi : (d : Int) ≤ 18446744073709551615 := by omega
        by_cases hj64 : j < 64
        · have hma := mod_bit X j
          have hmb := mod_bit Y j
          have hna := half_pow X j
          have hnb := half_pow Y j
          have hnc := unitAt_next hj64
          rw [← ha] at hma hna
          rw [← hb] at hmb hnb
          rw [← hc] at hnc
          have hcj : c = 2 ^ j := by rw [hc, unitAt, if_pos hj64]
          have hset := nb_set (fbDiffer X Y) j
          have hskip := nb_skip (fbDiffer X Y) j
          rw [← hd, ← hcj] at hset
          rw [← hd] at hskip
          have hlt1 : nb (fbDiffer X Y) (j + 1) < 2 ^ 64 := Nat.lt_of_lt_of_le (nb_lt _ _) (Nat.pow_le_pow_right (by omega) (by omega))
          generalize hde : nb (fbDiffer X Y) (j + 1) = d' at hset hskip hlt1
          have HDE := Lib.hid hde
          clear hde
          have hfb : fbDiffer X Y j = (X.testBit j ^^ Y.testBit j) := rfl
          generalize hfbe : fbDiffer X Y j = f at hset hskip hfb
          have hwu : IntKind.u64.wrap ((c : Int) * 2) = ((c * 2 % 18446744073709551616 : Nat) : Int) := by simp [IntKind.wrap, IntKind.bits, IntKind.signed]
          generalize hcc : c * 2 % 18446744073709551616 = c' at hnc hwu
          have hcm : (c : Int) * 2 % 18446744073709551616 = (c' : Int) := by omega
          have HNA := Lib.hid hna
          have HNB := Lib.hid hnb
          have HNC := Lib.hid hnc
          have HSET := Lib.hid hset
          have HSK := Lib.hid hskip
          have HL1 := Lib.hid hlt1
          clear hna hnb hnc hset hskip hlt1 ha hb hc hd hcj hcc hfbe hd64
          cases hxb : X.testBit j <;> cases hyb : Y.testBit j
          all_goals rw [hxb] at hma hfb
          all_goals rw [hyb] at hmb hfb
          all_goals simp at hma hmb hfb
          all_goals subst hfb
          · have qa : (a : Int) % 2 = 0 := by omega
            have qb : (b : Int) % 2 = 0 := by omega
            clear hma hmb
            go_wp2
            go_round
            case rel => exact ⟨j + 1, a / 2, b / 2, c', d, by omega, by go_num, by go_num, by go_num, by go_num, by go_num, HNA.out, HNB.out, HNC.out, by rw [HDE.out, HSK.out rfl]⟩
            case measure => simp [intOf]; omega
          · have qa : (a : Int) % 2 = 0 := by omega
            have qb : (b : Int) % 2 = 1 := by omega
            clear hma hmb
            have hdc : (d : Int) + (c : Int) ≤ 18446744073709551615 := by have := HSET.out rfl; have := HL1.out; omega
            go_wp2
            go_round
            case rel => exact ⟨j + 1, a / 2, b / 2, c', d + c, by omega, by go_num, by go_num, by go_num, by go_num, by go_num, HNA.out, HNB.out, HNC.out, by rw [HDE.out, HSET.out rfl]⟩
            case measure => simp [intOf]; omega
          · have qa : (a : Int) % 2 = 1 := by omega
            have qb : (b : Int) % 2 = 0 := by omega
            clear hma hmb
            have hdc : (d : Int) + (c : Int) ≤ 18446744073709551615 := by have := HSET.out rfl; have := HL1.out; omega
            go_wp2
            go_round
            case rel => exact ⟨j + 1, a / 2, b / 2, c', d + c, by omega, by go_num, by go_num, by go_num, by go_num, by go_num, HNA.out, HNB.out, HNC.out, by rw [HDE.out, HSET.out rfl]⟩
            case measure => simp [intOf]; omega
          · have qa : (a : Int) % 2 = 1 := by omega
            have qb : (b : Int) % 2 = 1 := by omega
            clear hma hmb
            go_wp2
            go_round
            case rel => exact ⟨j + 1, a / 2, b / 2, c', d, by omega, by go_num, by go_num, by go_num, by go_num, by go_num, HNA.out, HNB.out, HNC.out, by rw [HDE.out, HSK.out rfl]⟩
            case measure => simp [intOf]; omega
        · have hj4 : j = 64 := by omega
          subst hj4
          rw [HALL.out] at hd
          have HD := Lib.hid hd
          clear ha hb hc hd hd64
          go_wp2_with (at_builtin; refine wpList_append_any _ rfl (.tmp 76) (.tmp 78) _ rfl w.heap.size 32 i0 _ 1 8 Try.underlying23 hi0 hz0 hz1 hz2 rfl (by omega) u8 k (wds rs) rfl (World.ownsRow.alloc (w := wr.drewN nq) HOW.out _) (wr.heap.size + 1) (some ⟨wr.heap.size, 0, none⟩) 1 1 [.int .u64 (d : Int)] rfl (reads_one _ _ _) (by simp [Value.oneCell']) (by simp only [maxLen]; omega) (by omega) (by have := HBW.out.size; simp; omega) ?_; intro v2 w2 hown2 hg2 hat2; have HB2 := Lib.hid (((below_drewN HBW.out nq).alloc HBW.out.size (.cells #[Value.int .u64 (d : Int)] 32)).grown hg2 (by have := HBW.out.size; simp; omega) (fun k hk => (HOW.out.lt k hk).1)); have HO2 := Lib.hid hown2; clear hown2 hg2 hat2)
          go_roundw
          case rel => exact ⟨k + 1, by omega, by go_num, HB2.out, by rw [HRS.out, HMK.out, ← HD.out]; simpa using HO2.out⟩
          case measure => simp [intOf]; omega
    · have : k = N := by omega
      subst this
      have e : mkw k (fun i => ps.getD i 0 ^^^ qs.getD i 0) = zipW (fun x y => x ^^^ y) ps qs := by unfold zipW; rw [HN.out]
      rw [e] at how
      have HOW := Lib.hid how
      have HBW := Lib.hid hbw
      clear how hbw e
      go_wp2
      go_ret2
      exact ⟨_, rfl, HBW.out, HOW.out⟩

theorem RDiffer_bad (w : World) (v u : Value) (ps qs : List Nat) (h : Row w v (wds ps)) (h' : Row w u (wds qs)) (hE : twoE ps qs ≠ 0) :
    Calls Try.prog 32 #[v, u] w fun e w' => e = .returned (.tuple #[.slice none 0 0, .int .i64 (twoE ps qs)]) ∧ w = w' := by
  have hj := mix_Differ_bad w v u ps qs h h' hE
  generalize twoE ps qs = x at hj ⊢
  clear hE h h'
  go_enter Try.func32, Try.ntmps32
  go_wp2_with (go_at_call 49; refine hj.mono ?_; rintro e w' ⟨rfl, rfl⟩)
  go_ret2
  exact ⟨rfl, rfl⟩
theorem RDiffer_ok (w : World) (v u : Value) (ps qs : List Nat) (h : Row w v (wds ps)) (h' : Row w u (wds qs)) (ha : ∀ x ∈ ps, x < 2 ^ 64) (hb : ∀ x ∈ qs, x < 2 ^ 64) (hE : twoE ps qs = 0) :
    Calls Try.prog 32 #[v, u] w fun e w' => ∃ v', e = .returned (.tuple #[v', .int .i64 0]) ∧ Below w.heap.size w w' ∧ w'.ownsRow w.heap.size 32 1 v' ps.length (wds (zipW (fun x y => x ^^^ y) ps qs)) := by
  have hj := mix_Differ_ok w v u ps qs h h' ha hb hE
  have HJ := Lib.hid hj
  clear hE h h' ha hb hj
  go_enter Try.func32, Try.ntmps32
  go_wp2_with (go_at_call 49; refine HJ.out.mono ?_; rintro e w1 ⟨v', rfl, hb1, ho1⟩)
  go_ret2
  exact ⟨_, rfl, hb1, ho1⟩
end Go.Proofs.Ythchemgkfjmhjaa

/- The document's Pack, Text, Index, Row and Ones. -/
import Derived.Test.YthchemgkfjmhjaaTwo
import Derived.Test.YthchemgkfjmhjaaBits
namespace Go.Proofs.Ythchemgkfjmhjaa
open Go.RowKit

theorem RPack_bad (w : World) (v : Value) (bs : List Bool) (h : Row w v (bls bs)) (hn : 16384 < bs.length) :
    Calls Try.prog 11 #[v] w fun e w' => e = .returned (.tuple #[.slice none 0 0, .int .i64 2]) ∧ w = w' := by
  have hlen := h.len
  rw [List.length_map] at hlen
  unfold maxLen at hlen
  obtain ⟨A, c, rfl, h1, h2, h3⟩ := h
  rw [List.length_map]
  clear h1 h2 h3
  go_enter Try.func11, Try.ntmps11
  go_wp2
  go_ret2
  exact ⟨rfl, rfl⟩
theorem RPack_ok (w : World) (v : Value) (bs : List Bool) (h : Row w v (bls bs)) (hn : bs.length ≤ 16384) :
    Calls Try.prog 11 #[v] w fun e w' => ∃ v', e = .returned (.tuple #[v', .int .i64 0]) ∧ Below w.heap.size w w' ∧ w'.ownsRow w.heap.size 32 1 v' (packL bs).length (wds (packL bs)) := by
  have hp := Rpack_any w v bs h hn
  obtain ⟨A, c, rfl, h1, h2, h3⟩ := h
  rw [List.length_map] at hp ⊢
  have HP := Lib.hid hp
  clear h1 h2 h3 hp
  go_enter Try.func11, Try.ntmps11
  go_wp2_with (go_at_call 36; refine HP.out.mono ?_; rintro e w1 ⟨v', rfl, hb1, ho1⟩)
  go_ret2
  exact ⟨_, rfl, hb1, ho1⟩

set_option maxHeartbeats 1000000 in
set_option maxRecDepth 100000 in
theorem Bits0_any (w : World) (v : Value) (bs : List Bool) (h : Row w v (bls bs)) (hn : bs.length ≤ 16384) :
    Calls Try.prog 37 #[v] w fun e w' => e = .returned (.string (strOf (textL bs))) ∧ Below w.heap.size w w' := by
  obtain ⟨A, c, rfl, h1, h2, h3⟩ := h
  rw [List.length_map]
  have HC := Lib.hid h3
  have htx := text_of bs
  generalize hN : bs.length = N at *
  have hmk := fun wx => make_bytes N (by omega) wx
  have HMD := Lib.hid (made_bytes w N (by unfold maxLen; omega))
  have HN := Lib.hid hN
  have HTX := Lib.hid htx
  clear h3 hN htx h1 h2
  go_enter Try.func37, Try.ntmps37
  go_wp2
  go_loopw [4] (fun i wr => ∃ k : Nat, k ≤ N ∧ i = .int .i64 k ∧ Below w.heap.size w wr ∧ wr.ownsRow w.heap.size 5 1 (.slice (some ⟨w.heap.size, 0, none⟩) N N) N (u8s ((List.range N).map (tpart bs k)))) (fun i _ => N - (intOf i).toNat)
  case atStart =>
    refine ⟨0, by omega, rfl, (Below.refl _ _).alloc (Nat.le_refl _) _, ?_⟩
    rw [show (List.range N).map (tpart bs 0) = (List.range N).map fun _ => 0 from List.map_congr_left fun i _ => by unfold tpart; rw [if_neg (by omega)]]
    exact HMD.out
  case round =>
    obtain ⟨k, hk, rfl, hbw, how⟩ := hrel
    by_cases hlt : k < N
    · obtain ⟨b, off, rfl, hb, hcb0⟩ := HC.out.bit k (by rw [HN.out]; exact hlt)
      have hcb := (World.cell?_setCell_other wr ⟨w.heap.size, k, none⟩ ⟨b, off + k, none⟩ (.int .u8 48) (by intro e; injection e with e1; omega)).trans ((hbw.cell (p := ⟨b, off + k, none⟩) hb).trans hcb0)
      clear hcb0
      have hcell : wr.cell? ⟨w.heap.size, k, none⟩ = some (.int .u8 ((((List.range N).map (tpart bs k)).getD k 0).toNat : Int)) := by
        rw [how.cellAt k (by omega)]
        simp [List.getD, hlt]
      have hfr := how.frozenAt k
      have hst1 := (how.stored k (.int .u8 ((dig (bit bs k)).toNat : Int))).1
      have hst0 := (how.stored k (.int .u8 48)).1
      have hst2 := ((how.stored k (.int .u8 48)).1.stored k (.int .u8 ((dig (bit bs k)).toNat : Int))).1
      rw [List.set_set] at hst2
      rw [map_set N k (tpart bs k) (fun b : UInt8 => Value.int .u8 (b.toNat : Int)) (dig (bit bs k)) hlt, show (fun j => if j = k then dig (bit bs k) else tpart bs k j) = tpart bs (k + 1) from funext (tpart_step bs k)] at hst1 hst2
      have hfr0 := hst0.frozenAt k
      have hcell0 : (wr.setCell ⟨w.heap.size, k, none⟩ (.int .u8 48)).cell? ⟨w.heap.size, k, none⟩ = some (.int .u8 48) := by
        rw [hst0.cellAt k (by omega), List.getElem?_set]
        simp [hlt]
      generalize (((List.range N).map (tpart bs k)).getD k 0).toNat = y at hcell
      have HST1 := Lib.hid hst1
      have HST2 := Lib.hid hst2
      have HBW := Lib.hid hbw
      clear hst0 hst1 hst2 hbw how
      cases hbit : bit bs k
      · rw [hbit] at hcb HST1
        have HST1 : Hid _ := HST1
        go_wp2
        go_roundw
        case rel => exact ⟨k + 1, by omega, by go_num, HBW.out.setCell (Nat.le_refl _) _, HST1.out⟩
        case measure => simp [intOf]; omega
      · rw [hbit] at hcb HST2
        go_wp2
        go_roundw
        case rel => exact ⟨k + 1, by omega, by go_num, (HBW.out.setCell (Nat.le_refl _) _).setCell (Nat.le_refl _) _, HST2.out⟩
        case measure => simp [intOf]; omega
    · have : k = N := by omega
      subst this
      have hcv := made_string how
      rw [HTX.out] at hcv
      have HBW := Lib.hid hbw
      clear how hbw
      go_wp2
      go_ret
      exact ⟨rfl, HBW.out⟩


theorem RText_bad (w : World) (v : Value) (bs : List Bool) (h : Row w v (bls bs)) (hn : 16384 < bs.length) :
    Calls Try.prog 13 #[v] w fun e w' => e = .returned (.tuple #[.string (strOf []), .int .i64 2]) ∧ w = w' := by
  have hlen := h.len
  rw [List.length_map] at hlen
  unfold maxLen at hlen
  obtain ⟨A, c, rfl, h1, h2, h3⟩ := h
  rw [List.length_map]
  clear h1 h2 h3
  go_enter Try.func13, Try.ntmps13
  go_wp2
  go_ret2
  exact ⟨rfl, rfl⟩
theorem RText_ok (w : World) (v : Value) (bs : List Bool) (h : Row w v (bls bs)) (hn : bs.length ≤ 16384) :
    Calls Try.prog 13 #[v] w fun e w' => e = .returned (.tuple #[.string (strOf (textL bs)), .int .i64 0]) ∧ Below w.heap.size w w' := by
  have hp := Bits0_any w v bs h hn
  generalize strOf (textL bs) = s at hp ⊢
  obtain ⟨A, c, rfl, h1, h2, h3⟩ := h
  rw [List.length_map] at hp ⊢
  have HP := Lib.hid hp
  clear h1 h2 h3 hp
  go_enter Try.func13, Try.ntmps13
  go_wp2_with (go_at_call 37; refine HP.out.mono ?_; rintro e w1 ⟨rfl, hb1⟩)
  go_ret2
  exact ⟨rfl, hb1⟩

theorem RIndex_bad (w : World) (v : Value) (bs : List Bool) (h : Row w v (bls bs)) (hn : 62 < bs.length) :
    Calls Try.prog 15 #[v] w fun e w' => e = .returned (.tuple #[.int .i64 0, .int .i64 2]) ∧ w = w' := by
  have hlen := h.len
  rw [List.length_map] at hlen
  unfold maxLen at hlen
  obtain ⟨A, c, rfl, h1, h2, h3⟩ := h
  rw [List.length_map]
  clear h1 h2 h3
  go_enter Try.func15, Try.ntmps15
  go_wp2
  go_ret2
  exact ⟨rfl, rfl⟩
set_option maxHeartbeats 1000000 in
set_option maxRecDepth 100000 in
theorem RIndex_ok (w : World) (v : Value) (bs : List Bool) (h : Row w v (bls bs)) (hn : bs.length ≤ 62) :
    Calls Try.prog 15 #[v] w fun e w' => e = .returned (.tuple #[.int .i64 ((nb (bit bs) bs.length : Nat) : Int), .int .i64 0]) ∧ w = w' := by
  obtain ⟨A, c, rfl, _, _, h3⟩ := h
  rw [List.length_map]
  have HC := Lib.hid h3
  have hni : (bs.length : Int) ≤ 62 := by omega
  generalize hP : nb (bit bs) bs.length = P
  have HP := Lib.hid hP
  clear h3 hP
  go_enter Try.func15, Try.ntmps15
  go_wp2
  go_loop [4, 5] (fun q i => ∃ k x : Nat, k ≤ bs.length ∧ i = .int .i64 k ∧ q = .int .i64 x ∧ x = nb (bit bs) k) (fun q i => bs.length - (intOf i).toNat)
  case atStart => exact ⟨0, 0, by omega, rfl, rfl, rfl⟩
  case round =>
    obtain ⟨k, x, hk, rfl, rfl, hx⟩ := hrel
    have hlt62 := nb_lt (bit bs) k
    rw [← hx] at hlt62
    have hpw : 2 ^ k ≤ 2 ^ 62 := Nat.pow_le_pow_right (by omega) (by omega)
    have hpw1 : k < bs.length → 2 ^ k ≤ 2 ^ 61 := fun h => Nat.pow_le_pow_right (by omega) (by omega)
    have HX := Lib.hid hx
    clear hx
    by_cases hlt : k < bs.length
    · obtain ⟨b, off, rfl, hb, hcell⟩ := HC.out.bit k hlt
      have htwo := fun wx => Two_any k wx (by omega)
      have hnbs := nb_set (bit bs) k
      have hnbk := nb_skip (bit bs) k
      rw [← HX.out] at hnbs hnbk
      have hpw2 := hpw1 hlt
      clear hpw1
      generalize hp2 : 2 ^ k = p at hnbs htwo hpw hlt62 hpw2
      have hxi : (x : Int) ≤ 4611686018427387904 := by omega
      have hpi : (p : Int) ≤ 2305843009213693952 := by omega
      have HS := Lib.hid hnbs
      have HK := Lib.hid hnbk
      clear hnbs hnbk hp2 hlt62 hpw hpw2
      cases hbit : bit bs k
      · rw [hbit] at hcell
        go_wp2
        go_round
        case rel => exact ⟨k + 1, x, by omega, by go_num, rfl, (HK.out hbit).symm⟩
        case measure => simp [intOf]; omega
      · rw [hbit] at hcell
        go_wp2_with (go_at_call 39; refine (htwo _).mono ?_; rintro e w' ⟨rfl, rfl⟩)
        go_round
        case rel => exact ⟨k + 1, x + p, by omega, by go_num, by go_num, (HS.out hbit).symm⟩
        case measure => simp [intOf]; omega
    · have : k = bs.length := by omega
      subst this
      clear hlt62 hpw hpw1
      go_wp2
      go_ret2
      exact ⟨by rw [← HP.out, ← HX.out]; rfl, rfl⟩

/-- The first k bits of a number. -/
def lpart (x k i : Nat) : Bool := if i < k then x.testBit i else false
theorem lpart_step (x k i : Nat) : (if i = k then x.testBit k else lpart x k i) = lpart x (k + 1) i := by
  unfold lpart
  by_cases h : i = k
  · subst h; rw [if_pos rfl, if_pos (by omega)]
  · rw [if_neg h]
    by_cases h2 : i < k
    · rw [if_pos h2, if_pos (by omega)]
    · rw [if_neg h2, if_neg (by omega)]

set_option maxHeartbeats 1000000 in
set_option maxRecDepth 100000 in
theorem Row0_any (x n : Nat) (w : World) (hn : n ≤ 62) (hx : x < 2 ^ n) :
    Calls Try.prog 43 #[.int .i64 (x : Int), .int .i64 n] w fun e w' => ∃ v', e = .returned v' ∧ Below w.heap.size w w' ∧ w'.ownsRow w.heap.size 4 1 v' n (bls (mkb n fun i => x.testBit i)) := by
  have hp : 2 ^ n ≤ 2 ^ 62 := Nat.pow_le_pow_right (by omega) hn
  have hmk := fun wx => make_bools n (by omega) wx
  have HMD := Lib.hid (made_bools w n (by unfold maxLen; omega))
  have hxi : (x : Int) ≤ 4611686018427387904 := by omega
  have hni : (n : Int) ≤ 62 := by omega
  clear hx hp
  go_enter Try.func43, Try.ntmps43
  go_wp2
  go_loopw [0, 6] (fun q i wr => ∃ k y : Nat, k ≤ n ∧ i = .int .i64 k ∧ q = .int .i64 y ∧ y = x / 2 ^ k ∧ Below w.heap.size w wr ∧ wr.ownsRow w.heap.size 4 1 (.slice (some ⟨w.heap.size, 0, none⟩) n n) n (bls (mkb n (lpart x k)))) (fun q i _ => n - (intOf i).toNat)
  case atStart =>
    refine ⟨0, x, by omega, rfl, rfl, by simp, (Below.refl _ _).alloc (Nat.le_refl _) _, ?_⟩
    rw [show mkb n (lpart x 0) = mkb n fun _ => false from mkb_congr fun i _ => by unfold lpart; rw [if_neg (by omega)]]
    exact HMD.out
  case round =>
    obtain ⟨k, y, hk, rfl, rfl, hy, hbw, how⟩ := hrel
    have hyx : y ≤ x := by rw [hy]; exact Nat.div_le_self _ _
    have hyi : (y : Int) ≤ 4611686018427387904 := by omega
    by_cases hlt : k < n
    · have hcell : wr.cell? ⟨w.heap.size, k, none⟩ = some (.bool (bit (mkb n (lpart x k)) k)) := by
        rw [how.cellAt k (by omega)]
        simp [bit, List.getD, hlt]
      have hfr := how.frozenAt k
      have hst := (how.stored k (.bool (x.testBit k))).1
      rw [map_set n k (lpart x k) Value.bool (x.testBit k) hlt, show (fun j => if j = k then x.testBit k else lpart x k j) = lpart x (k + 1) from funext (lpart_step x k)] at hst
      have htb : x.testBit k = decide (y % 2 = 1) := by rw [hy, Nat.testBit_eq_decide_div_mod_eq]
      have hyn : y / 2 = x / 2 ^ (k + 1) := by rw [hy, Nat.div_div_eq_div_mul, Nat.pow_succ]
      generalize bit (mkb n (lpart x k)) k = z at hcell
      have HBW := Lib.hid hbw
      have HYN := Lib.hid hyn
      clear hbw how hy hyn hyx
      by_cases hodd : y % 2 = 1
      · have q : ((y : Int) % 2 == 1) = true := by simp; omega
        rw [htb, decide_eq_true hodd] at hst
        have HST := Lib.hid hst
        clear hst htb hodd
        go_wp2
        go_roundw
        case rel => exact ⟨k + 1, y / 2, by omega, by go_num, by go_num, HYN.out, HBW.out.setCell (Nat.le_refl _) _, HST.out⟩
        case measure => simp [intOf]; omega
      · have q : ((y : Int) % 2 == 1) = false := by simp; omega
        rw [htb, decide_eq_false hodd] at hst
        have HST := Lib.hid hst
        clear hst htb hodd
        go_wp2
        go_roundw
        case rel => exact ⟨k + 1, y / 2, by omega, by go_num, by go_num, HYN.out, HBW.out.setCell (Nat.le_refl _) _, HST.out⟩
        case measure => simp [intOf]; omega
    · have : k = n := by omega
      subst this
      have e : mkb k (lpart x k) = mkb k (fun i => x.testBit i) := mkb_congr fun i hi => by unfold lpart; rw [if_pos hi]
      rw [e] at how
      have HOW := Lib.hid how
      have HBW := Lib.hid hbw
      clear how hbw hy hyx e
      go_wp2
      go_ret
      exact ⟨_, rfl, HBW.out, HOW.out⟩
theorem RRow_ok (x n : Nat) (w : World) (hn : n ≤ 62) (hx : x < 2 ^ n) :
    Calls Try.prog 22 #[.int .i64 (x : Int), .int .i64 n] w fun e w' => ∃ v', e = .returned (.tuple #[v', .int .i64 0]) ∧ Below w.heap.size w w' ∧ w'.ownsRow w.heap.size 4 1 v' n (bls (mkb n fun i => x.testBit i)) := by
  have hp : 2 ^ n ≤ 2 ^ 62 := Nat.pow_le_pow_right (by omega) hn
  have hr := Row0_any x n w hn hx
  have htwo := fun wx => Two_any n wx (by omega)
  have hxi : (x : Int) ≤ 4611686018427387904 := by omega
  generalize 2 ^ n = p at htwo hx
  have q : decide (p ≤ x) = false := decide_eq_false (by omega)
  have HR := Lib.hid hr
  clear hr hp hx
  go_enter Try.func22, Try.ntmps22
  go_wp2_with (first
    | (go_at_call 39; refine (htwo _).mono ?_; rintro e w' ⟨rfl, rfl⟩)
    | (go_at_call 43; refine HR.out.mono ?_; rintro e w1 ⟨v', rfl, hb1, ho1⟩))
  go_ret2
  exact ⟨_, rfl, hb1, ho1⟩
theorem RRow_bad (x n : Int) (w : World) (h : rowBad x n) (hx : -9223372036854775808 ≤ x ∧ x ≤ 9223372036854775807) (hn : -9223372036854775808 ≤ n ∧ n ≤ 9223372036854775807) :
    Calls Try.prog 22 #[.int .i64 x, .int .i64 n] w fun e w' => e = .returned (.tuple #[.slice none 0 0, .int .i64 1]) ∧ w = w' := by
  by_cases g1 : n < 0
  · clear h
    go_enter Try.func22, Try.ntmps22
    go_wp2
    go_ret2
    exact ⟨rfl, rfl⟩
  · by_cases g2 : 62 < n
    · clear h
      go_enter Try.func22, Try.ntmps22
      go_wp2
      go_ret2
      exact ⟨rfl, rfl⟩
    · by_cases g3 : x < 0
      · clear h
        go_enter Try.func22, Try.ntmps22
        go_wp2
        go_ret2
        exact ⟨rfl, rfl⟩
      · obtain ⟨m, rfl⟩ := Int.eq_ofNat_of_zero_le (show 0 ≤ n by omega)
        obtain ⟨y, rfl⟩ := Int.eq_ofNat_of_zero_le (show 0 ≤ x by omega)
        have h4 : 2 ^ m ≤ y := by
          unfold rowBad at h
          rcases h with h | h | h | h
          · omega
          · omega
          · omega
          · simpa using h
        have htwo := fun wx => Two_any m wx (by omega)
        generalize 2 ^ m = p at htwo h4
        have q : decide (p ≤ y) = true := decide_eq_true (by omega)
        clear h h4
        go_enter Try.func22, Try.ntmps22
        go_wp2_with (go_at_call 39; refine (htwo _).mono ?_; rintro e w' ⟨rfl, rfl⟩)
        go_ret2
        exact ⟨rfl, rfl⟩

set_option maxHeartbeats 1000000 in
theorem ROnes_any (w : World) (v : Value) (ws : List Nat) (h : Row w v (wds ws)) (hw : ∀ x ∈ ws, x < 2 ^ 64) (hl8 : ws.length * 8 ≤ 140737488351232) : Calls Try.prog 28 #[v] w fun e w' => e = .returned (.int .i64 ((pops ws : Nat) : Int)) ∧ w = w' := by
  obtain ⟨A, c, rfl, h1, h2, h3⟩ := h
  rw [List.length_map]
  have HC := Lib.hid h3
  have HW := Lib.hid hw
  clear h3 h1 h2 hw
  go_enter Try.func28, Try.ntmps28
  go_wp2
  go_loop [3, 4] (fun q i => ∃ k y : Nat, k ≤ ws.length ∧ i = .int .i64 k ∧ q = .int .i64 y ∧ y = pops (ws.take k)) (fun q i => ws.length - (intOf i).toNat)
  case atStart => exact ⟨0, 0, by omega, rfl, rfl, by simp [pops]⟩
  case round =>
    obtain ⟨k, y, hk, rfl, rfl, hy⟩ := hrel
    have hyl : y ≤ 64 * ws.length := by
      have := pops_le (ws := ws.take k) (fun x hx => HW.out x (List.mem_of_mem_take hx))
      rw [List.length_take] at this; omega
    have HY := Lib.hid hy
    clear hy
    by_cases hlt : k < ws.length
    · obtain ⟨b, off, rfl, hb, hcell⟩ := HC.out.word k hlt
      have hx : ws.getD k 0 < 2 ^ 64 := by
        have : ws.getD k 0 ∈ ws := by simp [List.getD, hlt]
        exact HW.out _ this
      have hnx := pops_next hlt
      rw [← HY.out] at hnx
      have hp64 := pop_le 64 _ hx
      generalize ws.getD k 0 = x at hcell hx hnx hp64
      have hxi : (x : Int) ≤ 18446744073709551615 := by omega
      have HNX := Lib.hid hnx
      have hT : y + pop x ≤ 64 * ws.length + 64 := by omega
      generalize hTT : y + pop x = T at hnx hT
      have HTT := Lib.hid hTT
      have hTi : (T : Int) ≤ 9007199254741056 := by omega
      clear hnx hx hp64 hyl hTT
      have hxl : x ≤ 18446744073709551615 := by omega
      go_wp2
      go_loop [3, 5] (fun q i => ∃ z t : Nat, z ≤ 18446744073709551615 ∧ i = .int .u64 z ∧ q = .int .i64 t ∧ t + pop z = T) (fun q i => (intOf i).toNat)
      case atStart => exact ⟨x, y, hxl, rfl, rfl, HTT.out⟩
      case round =>
        obtain ⟨z, t, hz, rfl, rfl, ht⟩ := hrel
        have hti : (t : Int) ≤ 9007199254741056 := by omega
        have hzi : (z : Int) ≤ 18446744073709551615 := by omega
        have hps := pop_step z
        have hzm : z % 2 ≤ 1 := by omega
        by_cases hz0 : 0 < z
        · have HT := Lib.hid (show (t + z % 2) + pop (z / 2) = T by omega)
          have htz : (t : Int) + (z : Int) % 2 ≤ 9007199254741056 := by omega
          clear ht hps
          go_wp2
          go_round
          case rel => exact ⟨z / 2, t + z % 2, by omega, by go_num, by go_num, HT.out⟩
          case measure => simp [intOf]; omega
        · obtain rfl : z = 0 := by omega
          have HT := Lib.hid (show T = t by rw [← ht, pop_zero]; omega)
          clear ht hps
          go_wp2
          go_round
          case rel => exact ⟨k + 1, t, by omega, by go_num, rfl, HT.out.symm.trans (HTT.out.symm.trans HNX.out.symm)⟩
          case measure => simp [intOf]; omega
    · have : k = ws.length := by omega
      subst this
      go_wp2
      go_ret
      exact ⟨ret_int (by rw [HY.out, List.take_length]), rfl⟩
end Go.Proofs.Ythchemgkfjmhjaa

/- The program's Meet and Differ. -/
import Derived.Test.YthchemgkfjmhjaaShift
import Derived.Test.YthchemgkfjmhjaaOnes
namespace Go.Proofs.Ythchemgkfjmhjaa
open Go.RowKit

/-- What is wrong with two lists of words. -/
def twoE (ps qs : List Nat) : Int := if 16384 < ps.length ∨ 16384 < qs.length then 2 else if ps.length ≠ qs.length then 4 else 0
theorem twoE_long {ps qs : List Nat} (h : 16384 < ps.length ∨ 16384 < qs.length) : twoE ps qs = 2 := if_pos h
theorem twoE_ne {ps qs : List Nat} (h : ps.length ≤ 16384) (h' : qs.length ≤ 16384) (hn : ps.length ≠ qs.length) : twoE ps qs = 4 := by unfold twoE; rw [if_neg (by omega), if_pos hn]
theorem twoE_ok {ps qs : List Nat} (h : ps.length ≤ 16384) (hn : ps.length = qs.length) : twoE ps qs = 0 := by unfold twoE; rw [if_neg (by omega), if_neg (by omega)]
theorem twoE_zero {ps qs : List Nat} (h : twoE ps qs = 0) : ps.length ≤ 16384 ∧ ps.length = qs.length := by
  unfold twoE at h
  by_cases h1 : 16384 < ps.length ∨ 16384 < qs.length
  · rw [if_pos h1] at h; cases h
  · rw [if_neg h1] at h
    by_cases h2 : ps.length ≠ qs.length
    · rw [if_pos h2] at h; cases h
    · omega
/-- Word by word. -/
def zipW (f : Nat → Nat → Nat) (ps qs : List Nat) : List Nat := mkw ps.length fun i => f (ps.getD i 0) (qs.getD i 0)
def zpart (f : Nat → Nat → Nat) (ps qs : List Nat) (k i : Nat) : Nat := if i < k then f (ps.getD i 0) (qs.getD i 0) else 0
theorem zpart_step (f : Nat → Nat → Nat) (ps qs : List Nat) (k i : Nat) : (if i = k then f (ps.getD k 0) (qs.getD k 0) else zpart f ps qs k i) = zpart f ps qs (k + 1) i := by
  unfold zpart
  by_cases h : i = k
  · subst h; rw [if_pos rfl, if_pos (by omega)]
  · rw [if_neg h]
    by_cases h2 : i < k
    · rw [if_pos h2, if_pos (by omega)]
    · rw [if_neg h2, if_neg (by omega)]
theorem getD_lt {ws : List Nat} (hw : ∀ x ∈ ws, x < 2 ^ 64) (k : Nat) : ws.getD k 0 < 18446744073709551616 := by
  by_cases h : k < ws.length
  · have : ws.getD k 0 ∈ ws := by simp [List.getD, h]
    exact hw _ this
  · rw [List.getD, List.getElem?_eq_none (by omega)]; simp

theorem Meet_fn (x y : Nat) (w : World) (hx : x < 18446744073709551616) (hy : y < 18446744073709551616) : Calls Try.prog 48 #[.int .u64 (x : Int), .int .u64 (y : Int)] w fun e w' => e = .returned (.int .u64 ((x &&& y : Nat) : Int)) ∧ w = w' := by
  have hb := bits_and_u64_nat x y hx hy
  generalize x &&& y = z at hb ⊢
  go_enter Try.func48, Try.ntmps48
  go_wp2
  go_ret
  exact ⟨rfl, rfl⟩

set_option maxHeartbeats 1000000 in
theorem join_Meet_bad (w : World) (v u : Value) (ps qs : List Nat) (h : Row w v (wds ps)) (h' : Row w u (wds qs)) (hE : twoE ps qs ≠ 0) :
    Calls Try.prog 47 #[v, u, .func (.func 48) #[] #[]] w fun e w' => e = .returned (.tuple #[.slice none 0 0, .int .i64 (twoE ps qs)]) ∧ w = w' := by
  have hlen := h.len
  have hlen' := h'.len
  rw [List.length_map] at hlen hlen'
  unfold maxLen at hlen hlen'
  obtain ⟨A, c, rfl, _, _, _⟩ := h
  obtain ⟨A', c', rfl, _, _, _⟩ := h'
  rw [List.length_map, List.length_map]
  have HE := Lib.hid hE
  clear hE
  by_cases g1 : 16384 < ps.length
  · rw [twoE_long (.inl g1)]
    go_enter Try.func47, Try.ntmps47
    go_wp2
    go_ret2
    exact ⟨rfl, rfl⟩
  · by_cases g2 : 16384 < qs.length
    · rw [twoE_long (.inr g2)]
      go_enter Try.func47, Try.ntmps47
      go_wp2
      go_ret2
      exact ⟨rfl, rfl⟩
    · have hne : ps.length ≠ qs.length := fun e => HE.out (twoE_ok (by omega) e)
      rw [twoE_ne (by omega) (by omega) hne]
      have q : ((ps.length : Int) != (qs.length : Int)) = true := by simp; omega
      clear hne
      go_enter Try.func47, Try.ntmps47
      go_wp2
      go_ret2
      exact ⟨rfl, rfl⟩

set_option maxHeartbeats 4000000 in
set_option maxRecDepth 100000 in
theorem join_Meet_ok (w : World) (v u : Value) (ps qs : List Nat) (h : Row w v (wds ps)) (h' : Row w u (wds qs)) (ha : ∀ x ∈ ps, x < 2 ^ 64) (hb : ∀ x ∈ qs, x < 2 ^ 64) (hE : twoE ps qs = 0) :
    Calls Try.prog 47 #[v, u, .func (.func 48) #[] #[]] w fun e w' => ∃ v', e = .returned (.tuple #[v', .int .i64 0]) ∧ Below w.heap.size w w' ∧ w'.ownsRow w.heap.size 32 1 v' ps.length (wds (zipW (fun x y => x &&& y) ps qs)) := by
  obtain ⟨hl, hn⟩ := twoE_zero hE
  obtain ⟨A, c, rfl, _, _, h3⟩ := h
  obtain ⟨A', c', rfl, _, _, h3'⟩ := h'
  rw [List.length_map, List.length_map, ← hn]
  have hzz : mkw ps.length (zpart (fun x y => x &&& y) ps qs ps.length) = zipW (fun x y => x &&& y) ps qs := mkw_congr fun i hi => by unfold zpart; rw [if_pos hi]
  have HP := Lib.hid h3
  have HQ := Lib.hid h3'
  have HM := Lib.hid hn
  have HA := Lib.hid ha
  have HB := Lib.hid hb
  generalize hN : ps.length = N at *
  have hmk := fun wx => make_words N (by omega) wx
  have HMD := Lib.hid (made_words w N (by unfold maxLen; omega))
  have HN := Lib.hid hN
  have HZZ := Lib.hid hzz
  clear h3 h3' hn hE hN ha hb hzz
  go_enter Try.func47, Try.ntmps47
  go_wp2
  go_loopw [28] (fun i wr => ∃ k : Nat, k ≤ N ∧ i = .int .i64 k ∧ Below w.heap.size w wr ∧ wr.ownsRow w.heap.size 32 1 (.slice (some ⟨w.heap.size, 0, none⟩) N N) N (wds (mkw N (zpart (fun x y => x &&& y) ps qs k)))) (fun i _ => N - (intOf i).toNat)
  case atStart =>
    refine ⟨0, by omega, rfl, (Below.refl _ _).alloc (Nat.le_refl _) _, ?_⟩
    rw [show mkw N (zpart (fun x y => x &&& y) ps qs 0) = mkw N fun _ => 0 from mkw_congr fun i _ => by unfold zpart; rw [if_neg (by omega)]]
    exact HMD.out
  case round =>
    obtain ⟨k, hk, rfl, hbw, how⟩ := hrel
    by_cases hlt : k < N
    · have hcell0 : wr.drew.cell? ⟨w.heap.size, k, none⟩ = some (.int .u64 ((mkw N (zpart (fun x y => x &&& y) ps qs k)).getD k 0 : Nat)) := by
        have := how.cellAt k (by omega)
        rw [show wr.drew.cell? ⟨w.heap.size, k, none⟩ = wr.cell? ⟨w.heap.size, k, none⟩ from rfl, this]
        simp [List.getD, hlt]
      have hfr : wr.drew.frozen? ⟨w.heap.size, k, none⟩ = false := how.frozenAt k
      have hst := (how.stored k (.int .u64 ((ps.getD k 0 &&& qs.getD k 0 : Nat) : Int))).1
      rw [map_set N k (zpart (fun x y => x &&& y) ps qs k) (fun (n : Nat) => Value.int .u64 (n : Int)) (ps.getD k 0 &&& qs.getD k 0) hlt, show (fun j => if j = k then ps.getD k 0 &&& qs.getD k 0 else zpart (fun x y => x &&& y) ps qs k j) = zpart (fun x y => x &&& y) ps qs (k + 1) from funext (zpart_step (fun x y => x &&& y) ps qs k)] at hst
      obtain ⟨b, off, rfl, _, hcell1⟩ := (HP.out.below hbw).word k (by rw [HN.out]; exact hlt)
      obtain ⟨b', off', rfl, _, hcell2⟩ := (HQ.out.below hbw).word k (by rw [← HM.out]; exact hlt)
      have hcell1 : wr.drew.cell? ⟨b, off + k, none⟩ = _ := hcell1
      have hcell2 : wr.drew.cell? ⟨b', off' + k, none⟩ = _ := hcell2
      have hfn := fun wx => Meet_fn (ps.getD k 0) (qs.getD k 0) wx (getD_lt HA.out k) (getD_lt HB.out k)
      generalize (mkw N (zpart (fun x y => x &&& y) ps qs k)).getD k 0 = y0 at hcell0
      generalize ps.getD k 0 &&& qs.getD k 0 = z at hst hfn
      generalize ps.getD k 0 = x1 at hcell1 hfn
      generalize qs.getD k 0 = x2 at hcell2 hfn
      have HST := Lib.hid hst
      have HBW := Lib.hid hbw
      clear hst hbw how
      go_wp2
      go_region_with (go_at_call 48; refine (hfn _).mono ?_; rintro e w' ⟨rfl, rfl⟩)
      all_goals go_wp2
      all_goals go_roundw
      all_goals first
        | exact ⟨k + 1, by omega, by go_num, (HBW.out.setCell (Nat.le_refl _) _).drew, World.ownsRow.drew HST.out⟩
        | (simp [intOf]; omega)
    · have : k = N := by omega
      subst this
      have HOW := Lib.hid how
      have HBW := Lib.hid hbw
      clear how hbw
      go_wp2
      go_ret2
      exact ⟨_, rfl, HBW.out, by rw [← HZZ.out]; exact HOW.out⟩

theorem Meet_bad (w : World) (v u : Value) (ps qs : List Nat) (h : Row w v (wds ps)) (h' : Row w u (wds qs)) (hE : twoE ps qs ≠ 0) :
    Calls Try.prog 29 #[v, u] w fun e w' => e = .returned (.tuple #[.slice none 0 0, .int .i64 (twoE ps qs)]) ∧ w = w' := by
  have hj := join_Meet_bad w v u ps qs h h' hE
  generalize twoE ps qs = x at hj ⊢
  clear hE h h'
  go_enter Try.func29, Try.ntmps29
  go_wp2_with (go_at_call 47; refine hj.mono ?_; rintro e w' ⟨rfl, rfl⟩)
  go_ret2
  exact ⟨rfl, rfl⟩
theorem Meet_ok (w : World) (v u : Value) (ps qs : List Nat) (h : Row w v (wds ps)) (h' : Row w u (wds qs)) (ha : ∀ x ∈ ps, x < 2 ^ 64) (hb : ∀ x ∈ qs, x < 2 ^ 64) (hE : twoE ps qs = 0) :
    Calls Try.prog 29 #[v, u] w fun e w' => ∃ v', e = .returned (.tuple #[v', .int .i64 0]) ∧ Below w.heap.size w w' ∧ w'.ownsRow w.heap.size 32 1 v' ps.length (wds (zipW (fun x y => x &&& y) ps qs)) := by
  have hj := join_Meet_ok w v u ps qs h h' ha hb hE
  have HJ := Lib.hid hj
  clear hE h h' ha hb hj
  go_enter Try.func29, Try.ntmps29
  go_wp2_with (go_at_call 47; refine HJ.out.mono ?_; rintro e w1 ⟨v', rfl, hb1, ho1⟩)
  go_ret2
  exact ⟨_, rfl, hb1, ho1⟩

theorem Differ_fn (x y : Nat) (w : World) (hx : x < 18446744073709551616) (hy : y < 18446744073709551616) : Calls Try.prog 50 #[.int .u64 (x : Int), .int .u64 (y : Int)] w fun e w' => e = .returned (.int .u64 ((x ^^^ y : Nat) : Int)) ∧ w = w' := by
  have hb := bits_xor_u64_nat x y hx hy
  generalize x ^^^ y = z at hb ⊢
  go_enter Try.func50, Try.ntmps50
  go_wp2
  go_ret
  exact ⟨rfl, rfl⟩

set_option maxHeartbeats 1000000 in
theorem join_Differ_bad (w : World) (v u : Value) (ps qs : List Nat) (h : Row w v (wds ps)) (h' : Row w u (wds qs)) (hE : twoE ps qs ≠ 0) :
    Calls Try.prog 47 #[v, u, .func (.func 50) #[] #[]] w fun e w' => e = .returned (.tuple #[.slice none 0 0, .int .i64 (twoE ps qs)]) ∧ w = w' := by
  have hlen := h.len
  have hlen' := h'.len
  rw [List.length_map] at hlen hlen'
  unfold maxLen at hlen hlen'
  obtain ⟨A, c, rfl, _, _, _⟩ := h
  obtain ⟨A', c', rfl, _, _, _⟩ := h'
  rw [List.length_map, List.length_map]
  have HE := Lib.hid hE
  clear hE
  by_cases g1 : 16384 < ps.length
  · rw [twoE_long (.inl g1)]
    go_enter Try.func47, Try.ntmps47
    go_wp2
    go_ret2
    exact ⟨rfl, rfl⟩
  · by_cases g2 : 16384 < qs.length
    · rw [twoE_long (.inr g2)]
      go_enter Try.func47, Try.ntmps47
      go_wp2
      go_ret2
      exact ⟨rfl, rfl⟩
    · have hne : ps.length ≠ qs.length := fun e => HE.out (twoE_ok (by omega) e)
      rw [twoE_ne (by omega) (by omega) hne]
      have q : ((ps.length : Int) != (qs.length : Int)) = true := by simp; omega
      clear hne
      go_enter Try.func47, Try.ntmps47
      go_wp2
      go_ret2
      exact ⟨rfl, rfl⟩

set_option maxHeartbeats 4000000 in
set_option maxRecDepth 100000 in
theorem join_Differ_ok (w : World) (v u : Value) (ps qs : List Nat) (h : Row w v (wds ps)) (h' : Row w u (wds qs)) (ha : ∀ x ∈ ps, x < 2 ^ 64) (hb : ∀ x ∈ qs, x < 2 ^ 64) (hE : twoE ps qs = 0) :
    Calls Try.prog 47 #[v, u, .func (.func 50) #[] #[]] w fun e w' => ∃ v', e = .returned (.tuple #[v', .int .i64 0]) ∧ Below w.heap.size w w' ∧ w'.ownsRow w.heap.size 32 1 v' ps.length (wds (zipW (fun x y => x ^^^ y) ps qs)) := by
  obtain ⟨hl, hn⟩ := twoE_zero hE
  obtain ⟨A, c, rfl, _, _, h3⟩ := h
  obtain ⟨A', c', rfl, _, _, h3'⟩ := h'
  rw [List.length_map, List.length_map, ← hn]
  have hzz : mkw ps.length (zpart (fun x y => x ^^^ y) ps qs ps.length) = zipW (fun x y => x ^^^ y) ps qs := mkw_congr fun i hi => by unfold zpart; rw [if_pos hi]
  have HP := Lib.hid h3
  have HQ := Lib.hid h3'
  have HM := Lib.hid hn
  have HA := Lib.hid ha
  have HB := Lib.hid hb
  generalize hN : ps.length = N at *
  have hmk := fun wx => make_words N (by omega) wx
  have HMD := Lib.hid (made_words w N (by unfold maxLen; omega))
  have HN := Lib.hid hN
  have HZZ := Lib.hid hzz
  clear h3 h3' hn hE hN ha hb hzz
  go_enter Try.func47, Try.ntmps47
  go_wp2
  go_loopw [28] (fun i wr => ∃ k : Nat, k ≤ N ∧ i = .int .i64 k ∧ Below w.heap.size w wr ∧ wr.ownsRow w.heap.size 32 1 (.slice (some ⟨w.heap.size, 0, none⟩) N N) N (wds (mkw N (zpart (fun x y => x ^^^ y) ps qs k)))) (fun i _ => N - (intOf i).toNat)
  case atStart =>
    refine ⟨0, by omega, rfl, (Below.refl _ _).alloc (Nat.le_refl _) _, ?_⟩
    rw [show mkw N (zpart (fun x y => x ^^^ y) ps qs 0) = mkw N fun _ => 0 from mkw_congr fun i _ => by unfold zpart; rw [if_neg (by omega)]]
    exact HMD.out
  case round =>
    obtain ⟨k, hk, rfl, hbw, how⟩ := hrel
    by_cases hlt : k < N
    · have hcell0 : wr.drew.cell? ⟨w.heap.size, k, none⟩ = some (.int .u64 ((mkw N (zpart (fun x y => x ^^^ y) ps qs k)).getD k 0 : Nat)) := by
        have := how.cellAt k (by omega)
        rw [show wr.drew.cell? ⟨w.heap.size, k, none⟩ = wr.cell? ⟨w.heap.size, k, none⟩ from rfl, this]
        simp [List.getD, hlt]
      have hfr : wr.drew.frozen? ⟨w.heap.size, k, none⟩ = false := how.frozenAt k
      have hst := (how.stored k (.int .u64 ((ps.getD k 0 ^^^ qs.getD k 0 : Nat) : Int))).1
      rw [map_set N k (zpart (fun x y => x ^^^ y) ps qs k) (fun (n : Nat) => Value.int .u64 (n : Int)) (ps.getD k 0 ^^^ qs.getD k 0) hlt, show (fun j => if j = k then ps.getD k 0 ^^^ qs.getD k 0 else zpart (fun x y => x ^^^ y) ps qs k j) = zpart (fun x y => x ^^^ y) ps qs (k + 1) from funext (zpart_step (fun x y => x ^^^ y) ps qs k)] at hst
      obtain ⟨b, off, rfl, _, hcell1⟩ := (HP.out.below hbw).word k (by rw [HN.out]; exact hlt)
      obtain ⟨b', off', rfl, _, hcell2⟩ := (HQ.out.below hbw).word k (by rw [← HM.out]; exact hlt)
      have hcell1 : wr.drew.cell? ⟨b, off + k, none⟩ = _ := hcell1
      have hcell2 : wr.drew.cell? ⟨b', off' + k, none⟩ = _ := hcell2
      have hfn := fun wx => Differ_fn (ps.getD k 0) (qs.getD k 0) wx (getD_lt HA.out k) (getD_lt HB.out k)
      generalize (mkw N (zpart (fun x y => x ^^^ y) ps qs k)).getD k 0 = y0 at hcell0
      generalize ps.getD k 0 ^^^ qs.getD k 0 = z at hst hfn
      generalize ps.getD k 0 = x1 at hcell1 hfn
      generalize qs.getD k 0 = x2 at hcell2 hfn
      have HST := Lib.hid hst
      have HBW := Lib.hid hbw
      clear hst hbw how
      go_wp2
      go_region_with (go_at_call 50; refine (hfn _).mono ?_; rintro e w' ⟨rfl, rfl⟩)
      all_goals go_wp2
      all_goals go_roundw
      all_goals first
        | exact ⟨k + 1, by omega, by go_num, (HBW.out.setCell (Nat.le_refl _) _).drew, World.ownsRow.drew HST.out⟩
        | (simp [intOf]; omega)
    · have : k = N := by omega
      subst this
      have HOW := Lib.hid how
      have HBW := Lib.hid hbw
      clear how hbw
      go_wp2
      go_ret2
      exact ⟨_, rfl, HBW.out, by rw [← HZZ.out]; exact HOW.out⟩

theorem Differ_bad (w : World) (v u : Value) (ps qs : List Nat) (h : Row w v (wds ps)) (h' : Row w u (wds qs)) (hE : twoE ps qs ≠ 0) :
    Calls Try.prog 31 #[v, u] w fun e w' => e = .returned (.tuple #[.slice none 0 0, .int .i64 (twoE ps qs)]) ∧ w = w' := by
  have hj := join_Differ_bad w v u ps qs h h' hE
  generalize twoE ps qs = x at hj ⊢
  clear hE h h'
  go_enter Try.func31, Try.ntmps31
  go_wp2_with (go_at_call 47; refine hj.mono ?_; rintro e w' ⟨rfl, rfl⟩)
  go_ret2
  exact ⟨rfl, rfl⟩
theorem Differ_ok (w : World) (v u : Value) (ps qs : List Nat) (h : Row w v (wds ps)) (h' : Row w u (wds qs)) (ha : ∀ x ∈ ps, x < 2 ^ 64) (hb : ∀ x ∈ qs, x < 2 ^ 64) (hE : twoE ps qs = 0) :
    Calls Try.prog 31 #[v, u] w fun e w' => ∃ v', e = .returned (.tuple #[v', .int .i64 0]) ∧ Below w.heap.size w w' ∧ w'.ownsRow w.heap.size 32 1 v' ps.length (wds (zipW (fun x y => x ^^^ y) ps qs)) := by
  have hj := join_Differ_ok w v u ps qs h h' ha hb hE
  have HJ := Lib.hid hj
  clear hE h h' ha hb hj
  go_enter Try.func31, Try.ntmps31
  go_wp2_with (go_at_call 47; refine HJ.out.mono ?_; rintro e w1 ⟨v', rfl, hb1, ho1⟩)
  go_ret2
  exact ⟨_, rfl, hb1, ho1⟩
end Go.Proofs.Ythchemgkfjmhjaa

/- The program's pack, unpack and check: a row of bits and its words. -/
import Derived.Test.YthchemgkfjmhjaaSpread
namespace Go.Proofs.Ythchemgkfjmhjaa
open Go.RowKit

theorem wordsOf_any (n : Nat) (w : World) (hn : (n : Int) ≤ 1000000) : Calls Try.prog 55 #[.int .i64 n] w fun e w' => e = .returned (.int .i64 (((n + 63) / 64 : Nat) : Int)) ∧ w = w' := by
  go_enter Try.func55, Try.ntmps55
  go_wp2
  go_ret
  have e : ((n : Int) + 64 - 1) / 64 = (((n + 63) / 64 : Nat) : Int) := by omega
  exact ⟨by rw [← e]; rfl, rfl⟩

theorem slice_bools (b off n c l m : Nat) (lo hi : Int) (hlm : l < m) (hm : m ≤ n) (hc : n ≤ c) (el : lo = (l : Int)) (eh : hi = (m : Int)) (wx : World) :
    (Instr.slice 22 (.slice (some ⟨b, off, none⟩) n c) (some (.int .i64 lo)) (some (.int .i64 hi)) none).run Try.prog wx = .ok (.slice (some ⟨b, off + l, none⟩) (m - l) (c - l)) wx := by
  subst el eh
  have hs : (sizeOf (Try.prog.elem 22)).run Try.prog wx = .ok 1 wx := by simp [go_sem]
  rw [run_slice_lh wx 22 (some ⟨b, off, none⟩) n c Try.underlying22 .i64 .i64 l m (by omega) (by omega) (by omega), hs]
  show Result.ok (sliced _ (l : Int).toNat (m : Int).toNat c 1) wx = _
  rw [Int.toNat_natCast, Int.toNat_natCast]
  simp [sliced, show ¬ c = l by omega, add_none]

/-- Up to place 64 k the bits are those of the words. -/
def part (ws : List Nat) (k i : Nat) : Bool := if i < 64 * k then wbit ws i else false
theorem part_next {ws : List Nat} {n k m : Nat} (hm : m = min 64 (n - 64 * k)) : mkb n (over (mkb n (part ws k)) (ws.getD k 0) (64 * k) m) = mkb n (part ws (k + 1)) := by
  refine mkb_congr fun i hi => ?_
  unfold over part
  by_cases h1 : i < 64 * k
  · rw [if_neg (by omega), mkb_bit _ hi, if_pos h1, if_pos (by omega)]
  · by_cases h2 : i < 64 * k + m
    · rw [if_pos (by omega), if_pos (by omega)]
      unfold wbit
      rw [show i / 64 = k by omega, show i % 64 = i - 64 * k by omega]
    · rw [if_neg (by omega), mkb_bit _ hi, if_neg h1, if_neg (by omega)]

set_option maxHeartbeats 2000000 in
set_option maxRecDepth 100000 in
theorem unpack_any (w : World) (v : Value) (ws : List Nat) (n : Nat) (h : Row w v (wds ws)) (hl : ws.length = (n + 63) / 64) (hn : n ≤ 16384) (hw : ∀ x ∈ ws, x < 2 ^ 64) :
    Calls Try.prog 45 #[v, .int .i64 n] w fun e w' => ∃ v', e = .returned v' ∧ Below w.heap.size w w' ∧ w'.ownsRow w.heap.size 4 1 v' n (bls (rowL ws n)) := by
  obtain ⟨A, c, rfl, h1, h2, h3⟩ := h
  rw [List.length_map] at h1 ⊢
  have hll : (ws.length : Int) ≤ 256 := by omega
  have HC := Lib.hid h3
  have hmk := fun wx => make_bools n (by omega) wx
  have hmd := made_bools w n (by unfold maxLen; omega)
  have HMD := Lib.hid hmd
  have HW := Lib.hid hw
  have HL := Lib.hid hl
  clear h3 hmd hw hl
  go_enter Try.func45, Try.ntmps45
  go_wp2
  go_loopw [12] (fun i wr => ∃ k : Nat, k ≤ ws.length ∧ i = .int .i64 k ∧ Below w.heap.size w wr ∧ wr.ownsRow w.heap.size 4 1 (.slice (some ⟨w.heap.size, 0, none⟩) n n) n (bls (mkb n (part ws k)))) (fun i _ => ws.length - (intOf i).toNat)
  case atStart =>
    refine ⟨0, by omega, rfl, (Below.refl _ _).alloc (Nat.le_refl _) _, ?_⟩
    rw [show mkb n (part ws 0) = mkb n fun _ => false from mkb_congr fun i _ => by unfold part; rw [if_neg (by omega)]]
    exact HMD.out
  case round =>
    obtain ⟨k, hk, rfl, hbw, how⟩ := hrel
    have HOW := Lib.hid how
    have HBW := Lib.hid hbw
    clear how hbw
    by_cases hlt : k < ws.length
    · have hk2 : 64 * k < n := by have := HL.out; omega
      obtain ⟨b, off, rfl, hb, hcell⟩ := (HC.out.below HBW.out).word k hlt
      have hx : ws.getD k 0 < 18446744073709551616 := by
        have : ws.getD k 0 ∈ ws := by simp [List.getD, hlt]
        exact HW.out _ this
      have hpn := fun m hm => part_next (ws := ws) (n := n) (k := k) (m := m) hm
      generalize ws.getD k 0 = x at hcell hx hpn
      have HPN := Lib.hid hpn
      clear hpn
      by_cases hmin : (n : Int) < ((k : Int) + 1) * 64
      · have hsl := fun wx => slice_bools w.heap.size 0 n n (64 * k) n ((k : Int) * 64) n (by omega) (by omega) (by omega) (by omega) rfl wx
        rw [Nat.zero_add] at hsl
        go_wp2_with (go_at_call 42; refine (spread_any wr w.heap.size w.heap.size n n (64 * k) (n - 64 * k) (n - 64 * k) x _ HOW.out (by omega) hn (by omega) hx).mono ?_; rintro e w1 ⟨rfl, hg1, ho1⟩; have HG1 := Lib.hid hg1; have HO1 := Lib.hid ho1; clear hg1 ho1)
        go_roundw
        case rel => exact ⟨k + 1, by omega, by go_num, HBW.out.grown HG1.out HBW.out.size (fun j hj => by cases hj; exact Nat.le_refl _), by rw [← HPN.out (n - 64 * k) (by omega)]; exact HO1.out⟩
        case measure => simp [intOf]; omega
      · have hsl := fun wx => slice_bools w.heap.size 0 n n (64 * k) (64 * (k + 1)) ((k : Int) * 64) (((k : Int) + 1) * 64) (by omega) (by omega) (by omega) (by omega) (by omega) wx
        rw [Nat.zero_add, show 64 * (k + 1) - 64 * k = 64 by omega] at hsl
        go_wp2_with (go_at_call 42; refine (spread_any wr w.heap.size w.heap.size n n (64 * k) 64 (n - 64 * k) x _ HOW.out (by omega) hn (by omega) hx).mono ?_; rintro e w1 ⟨rfl, hg1, ho1⟩; have HG1 := Lib.hid hg1; have HO1 := Lib.hid ho1; clear hg1 ho1)
        go_roundw
        case rel => exact ⟨k + 1, by omega, by go_num, HBW.out.grown HG1.out HBW.out.size (fun j hj => by cases hj; exact Nat.le_refl _), by rw [← HPN.out 64 (by omega)]; exact HO1.out⟩
        case measure => simp [intOf]; omega
    · have : k = ws.length := by omega
      subst this
      have e : rowL ws n = mkb n (part ws ws.length) := mkb_congr fun i hi => by unfold part; rw [if_pos (by have := HL.out; omega)]
      have HE := Lib.hid e
      clear e
      go_wp2
      go_ret
      exact ⟨_, rfl, HBW.out, by rw [HE.out]; exact HOW.out⟩
end Go.Proofs.Ythchemgkfjmhjaa

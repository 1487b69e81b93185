/- The program's spread, pack, unpack and check: a row of bits and its words. -/
import Derived.Test.YthchemgkfjmhjaaRow
namespace Go.Proofs.Ythchemgkfjmhjaa
open Go.RowKit

/-- The bits of x over those of bs, from off on, m of them. -/
def over (bs : List Bool) (x off m : Nat) (i : Nat) : Bool := if off ≤ i ∧ i < off + m then x.testBit (i - off) else bit bs i
theorem over_step (bs : List Bool) (x off k : Nat) (i : Nat) : (if i = off + k then x.testBit k else over bs x off k i) = over bs x off (k + 1) i := by
  unfold over
  by_cases h : i = off + k
  · subst h; simp
  · rw [if_neg h]
    by_cases h2 : off ≤ i ∧ i < off + k
    · rw [if_pos h2, if_pos (by omega)]
    · rw [if_neg h2, if_neg (by omega)]
theorem and_bit (x k : Nat) (hx : x < 18446744073709551616) : bits .and .u64 ((x : Int) / 2 ^ k) 1 = (((x.testBit k).toNat : Nat) : Int) := by
  have e : (x : Int) / 2 ^ k = ((x / 2 ^ k : Nat) : Int) := by push_cast; rfl
  have h2 : x / 2 ^ k < 18446744073709551616 := Nat.lt_of_le_of_lt (Nat.div_le_self _ _) hx
  rw [e, show (1 : Int) = ((1 : Nat) : Int) by rfl, bits_and_u64_nat _ _ h2 (by omega), Nat.and_one_is_mod]
  congr 1
  rw [Nat.testBit_eq_decide_div_mod_eq]
  have : x / 2 ^ k % 2 = 0 ∨ x / 2 ^ k % 2 = 1 := by omega
  rcases this with h | h <;> simp [h]

set_option maxHeartbeats 1000000 in
set_option maxRecDepth 100000 in
theorem spread_any (w : World) (B g cap n off m c x : Nat) (bs : List Bool) (h : w.ownsRow B 4 1 (.slice (some ⟨g, 0, none⟩) n cap) n (bls bs)) (hm : off + m ≤ n) (_hn : n ≤ 16384) (hm6 : m ≤ 64) (hx : x < 18446744073709551616) :
    Calls Try.prog 42 #[.slice (some ⟨g, off, none⟩) m c, .int .u64 (x : Int)] w fun e w' => e = .returned (.tuple #[]) ∧ w.grownBy w' (some g) ∧ w'.ownsRow B 4 1 (.slice (some ⟨g, 0, none⟩) n cap) n (bls (mkb n (over bs x off m))) := by
  have hl : bs.length = n := by have := h.1; simpa using this
  have h0 : mkb n (over bs x off 0) = bs := by
    rw [← hl]
    refine (mkb_congr fun i hi => ?_).trans (mkb_of bs)
    unfold over; rw [if_neg (by omega)]
  have H := Lib.hid h
  have H0 := Lib.hid h0
  clear h h0 hl
  go_enter Try.func42, Try.ntmps42
  go_wp2
  go_loopw [7] (fun i wr => ∃ k : Nat, k ≤ m ∧ i = .int .i64 k ∧ w.grownBy wr (some g) ∧ wr.ownsRow B 4 1 (.slice (some ⟨g, 0, none⟩) n cap) n (bls (mkb n (over bs x off k)))) (fun i _ => m - (intOf i).toNat)
  case atStart => exact ⟨0, by omega, rfl, World.grownBy.refl w _, by rw [H0.out]; exact H.out⟩
  case round =>
    obtain ⟨k, hk, rfl, hgr, how⟩ := hrel
    by_cases hlt : k < m
    · have hcell : wr.cell? ⟨g, off + k, none⟩ = some (.bool (bit (mkb n (over bs x off k)) (off + k))) := by
        rw [how.cellAt (off + k) (by omega)]
        simp [bit, List.getD, show off + k < n by omega]
      have hfr := how.frozenAt (off + k)
      have hst := how.stored (off + k) (.bool (x.testBit k))
      rw [map_set n (off + k) (over bs x off k) Value.bool (x.testBit k) (by omega), show (fun j => if j = off + k then x.testBit k else over bs x off k j) = over bs x off (k + 1) from funext (over_step bs x off k)] at hst
      have hand := and_bit x k hx
      generalize bit (mkb n (over bs x off k)) (off + k) = y at hcell
      have HST := Lib.hid hst
      have HGR := Lib.hid hgr
      clear hst how hgr
      cases hb : x.testBit k
      · rw [hb] at hand HST
        have hand : bits .and .u64 ((x : Int) / 2 ^ k) 1 = 0 := hand
        go_wp2
        go_roundw
        case rel => exact ⟨k + 1, by omega, by go_num, only_set HGR.out _ _, HST.out.1⟩
        case measure => simp [intOf]; omega
      · rw [hb] at hand HST
        have hand : bits .and .u64 ((x : Int) / 2 ^ k) 1 = 1 := hand
        go_wp2
        go_roundw
        case rel => exact ⟨k + 1, by omega, by go_num, only_set HGR.out _ _, HST.out.1⟩
        case measure => simp [intOf]; omega
    · have : k = m := by omega
      subst this
      have HOW := Lib.hid how
      have HGR := Lib.hid hgr
      clear how hgr
      go_wp2
      go_end0
      exact ⟨rfl, HGR.out, HOW.out⟩
end Go.Proofs.Ythchemgkfjmhjaa

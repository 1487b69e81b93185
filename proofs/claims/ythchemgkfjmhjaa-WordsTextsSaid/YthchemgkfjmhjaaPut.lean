/- The program's Put: a number's groups as bytes. -/
import Derived.Test.YthchemgkfjmhjaaStr
namespace Go.Proofs.Ythchemgkfjmhjaa
open Go.RowKit

def isNum (n : Int) : Bool := decide (0 ≤ n ∧ n ≤ 2147483647)
theorem isNum_yes {n : Int} (h : 0 ≤ n) (h' : n ≤ 2147483647) : isNum n = true := by simp [isNum]; omega
theorem isNum_low {n : Int} (h : n < 0) : isNum n = false := by simp [isNum]; omega
theorem isNum_high {n : Int} (h : 2147483647 < n) : isNum n = false := by simp [isNum]; omega
theorem isNum_iff {n : Int} : isNum n = true ↔ 0 ≤ n ∧ n ≤ 2147483647 := by simp [isNum]

theorem isNumber_any (n : Int) (w : World) : Calls Try.prog 53 #[.int .i64 n] w fun e w' => e = .returned (.bool (isNum n)) ∧ w = w' := by
  by_cases h0 : n < 0
  · rw [isNum_low h0]
    have q : decide (0 ≤ n) = false := by simpa using h0
    go_enter Try.func53, Try.ntmps53
    go_wp2
    go_ret
    exact ⟨rfl, rfl⟩
  · by_cases h1 : n ≤ 2147483647
    · rw [isNum_yes (by omega) h1]
      have h0 : 0 ≤ n := by omega
      go_enter Try.func53, Try.ntmps53
      go_wp2
      go_ret
      exact ⟨rfl, rfl⟩
    · rw [isNum_high (by omega)]
      have h0 : 0 ≤ n := by omega
      have h2 : decide (n ≤ 2147483647) = false := by simpa using h1
      go_enter Try.func53, Try.ntmps53
      go_wp2
      go_ret
      exact ⟨rfl, rfl⟩

theorem and_low (k : Nat) (hk : (k : Int) ≤ 4294967295) : bits .and .u32 (k : Int) 127 = (k : Int) % 128 := by
  have g1 : (BitVec.ofInt 32 (k : Int)).toNat = k := by rw [BitVec.ofInt_natCast, BitVec.toNat_ofNat]; exact Nat.mod_eq_of_lt (by omega)
  have g2 : (BitVec.ofInt 32 (127 : Int)).toNat = 127 := by decide
  show IntKind.u32.wrap ((BitVec.ofInt 32 (k : Int) &&& BitVec.ofInt 32 (127 : Int)).toNat : Int) = _
  rw [BitVec.toNat_and, g1, g2, show (127 : Nat) = 2 ^ 7 - 1 by rfl, Nat.and_two_pow_sub_one_eq_mod]
  simp [IntKind.wrap, IntKind.bits, IntKind.signed]; omega
/-- The first cells of a block read as bytes. -/
def Heads (w : World) (g : Nat) (l : List UInt8) : Prop := ∃ cs : Array Value, Blk w g 75 cs ∧ cs.size = 10 ∧ ∀ i, i < l.length → cs[i]? = some (Value.int .u8 ((l.getD i 0).toNat : Int))
theorem Heads.at_ {w : World} {g : Nat} {l : List UInt8} (h : Heads w g l) (i : Nat) (hi : i < 10) : (∃ u, w.cell? ⟨g, i, none⟩ = some u) ∧ w.frozen? ⟨g, i, none⟩ = false := by
  obtain ⟨cs, hb, hs, _⟩ := h
  exact ⟨⟨_, by rw [hb.cell, Array.getElem?_eq_getElem (by omega)]⟩, hb.frozen i⟩
theorem Heads.put {w : World} {g : Nat} {l : List UInt8} (h : Heads w g l) (b : UInt8) (x : Int) (hx : x = (b.toNat : Int)) (hl : l.length < 10) : Heads (w.setCell ⟨g, l.length, none⟩ (.int .u8 x)) g (l ++ [b]) := by
  obtain ⟨cs, hb, hs, hc⟩ := h
  refine ⟨_, hb.set_ _ _, by simpa using hs, fun i hi => ?_⟩
  rw [List.length_append, List.length_singleton] at hi
  rw [Array.getElem?_setIfInBounds]
  by_cases e : l.length = i
  · subst e hx
    rw [if_pos rfl, if_pos (by omega)]
    simp [List.getD]
  · rw [if_neg e, hc i (by omega)]
    simp [List.getD, List.getElem?_append_left (show i < l.length by omega)]
theorem Heads.text {w : World} {g : Nat} {l : List UInt8} (h : Heads w g l) : (convert 54 9 (.slice (some ⟨g, 0, none⟩) l.length 10)).run Try.prog w = .ok (.string ⟨l.toArray⟩) w := by
  obtain ⟨cs, hb, hs, hc⟩ := h
  refine run_convert_bytes_back w 54 9 5 ⟨g, 0, none⟩ 10 l Try.underlying54 Try.underlying5 Try.underlying9 (fun j hj => ?_)
  rw [add_none, Nat.zero_add, hb.cell, hc j hj]
  simp [List.getD, hj]

theorem slice_ten (g m : Nat) (hm : m < 10) (wx : World) : (Instr.sliceAt 75 (.pointer (some ⟨g, 0, none⟩)) none (some (.int .i64 ((m : Int) + 1))) none).run Try.prog wx = .ok (.slice (some ⟨g, 0, none⟩) (m + 1) 10) wx := by
  have hal : Try.prog.arrayLen 75 = 10 := by kernel_rfl
  have hs : (sizeOf (Try.prog.elem 75)).run Try.prog wx = .ok 1 wx := by simp [go_sem]
  rw [run_sliceAt_array_h wx 75 ⟨g, 0, none⟩ Try.underlying75 .i64 ((m : Int) + 1) (by omega) (by rw [hal]; omega), hs, hal]
  show Result.ok (slicedAt _ 0 ((m : Int) + 1).toNat 10 1) wx = _
  have e : ((m : Int) + 1).toNat = m + 1 := by omega
  rw [e]
  simp [slicedAt, Addr.add]

set_option maxHeartbeats 1000000 in
set_option maxRecDepth 100000 in
theorem groups_any (n : Nat) (w : World) (h : n ≤ 2147483647) : Calls Try.prog 54 #[.int .u32 n] w fun e w' => e = .returned (.string (strOf (groups n))) ∧ Below w.heap.size w w' := by
  have hlen : (groups n).length ≤ 5 := (groups_len n).2 (by omega)
  generalize hg : groups n = gs at hlen ⊢
  have HG := Lib.hid hg
  clear hg
  go_enter Try.func54, Try.ntmps54
  go_wp2
  go_loopw [0, 4] (fun q v wr => ∃ (k : Nat) (l : List UInt8), q = .int .u32 k ∧ v = .int .i64 l.length ∧ (k : Int) ≤ 2147483647 ∧ Below w.heap.size w wr ∧ Heads wr w.heap.size l ∧ l ++ groups k = gs) (fun q _ _ => (intOf q).toNat)
  case atStart => exact ⟨n, [], rfl, rfl, by omega, (Below.refl _ _).alloc (Nat.le_refl _) _, ⟨_, Blk.new _ _ _, rfl, by simp⟩, by simpa using HG.out⟩
  case round =>
    obtain ⟨k, l, rfl, rfl, hk, hbw, hhd, hl⟩ := hrel
    have HH := Lib.hid hhd
    have HL := Lib.hid hl
    have hll : l.length < 5 := by
      have := congrArg List.length hl; rw [List.length_append] at this
      have h2 := (groups_len k).1
      omega
    obtain ⟨⟨u, hu⟩, hf⟩ := hhd.at_ l.length (by omega)
    clear hhd hl
    have ha := and_low k (by omega)
    by_cases h1 : k < 128
    · have q : ((k : Int) / 128 != 0) = false := by simp; omega
      have hput := HH.out.put (byteOf k) (k : Int) (by rw [byteOf_toNat (by omega)]) (by omega)
      have htx := hput.text
      rw [List.length_append, List.length_singleton] at htx
      have HP := Lib.hid hput
      have HL2 := Lib.hid (snoc_last HL.out h1)
      clear hput
      have hsl := slice_ten w.heap.size l.length (by omega)
      go_wp2
      go_ret
      exact ⟨by rw [← HL2.out]; rfl, hbw.setCell (Nat.le_refl _) _⟩
    · have q : ((k : Int) / 128 != 0) = true := by simp; omega
      go_wp2
      go_roundw
      case rel =>
        have hb : (byteOf (k % 128 + 128)).toNat = k % 128 + 128 := byteOf_toNat (by omega)
        refine ⟨k / 128, l ++ [byteOf (k % 128 + 128)], by go_num, by simp, by omega, hbw.setCell (Nat.le_refl _) _, ?_, ?_⟩
        · exact HH.out.put _ _ (by rw [hb, u8_or128_right _ (by omega) (by omega)]; omega) (by omega)
        · rw [← HL.out, groups_more h1]; simp
      case measure => simp [intOf]; omega

theorem Put_bad (n : Int) (w : World) (h : isNum n = false) : Calls Try.prog 34 #[.int .i64 n] w fun e w' => e = .returned (.tuple #[.string (strOf []), .int .i64 1]) ∧ w = w' := by
  have hn := isNumber_any n
  rw [h] at hn
  go_enter Try.func34, Try.ntmps34
  go_wp2_with (go_at_call 53; refine (hn _).mono ?_; rintro e w' ⟨rfl, rfl⟩)
  go_ret2
  exact ⟨rfl, rfl⟩
theorem Put_ok (n : Nat) (w : World) (h : n ≤ 2147483647) : Calls Try.prog 34 #[.int .i64 n] w fun e w' => e = .returned (.tuple #[.string (strOf (groups n)), .int .i64 0]) ∧ Below w.heap.size w w' := by
  have hn := isNumber_any (n : Int)
  rw [isNum_yes (by omega) (by omega)] at hn
  have hg := groups_any n
  generalize strOf (groups n) = gs at hg ⊢
  go_enter Try.func34, Try.ntmps34
  go_wp2_with (first
    | (go_at_call 53; refine (hn _).mono ?_; rintro e w' ⟨rfl, rfl⟩)
    | (go_at_call 54; refine (hg _ h).mono ?_; rintro e w1 ⟨rfl, hb1⟩))
  go_ret2
  exact ⟨rfl, hb1⟩
end Go.Proofs.Ythchemgkfjmhjaa

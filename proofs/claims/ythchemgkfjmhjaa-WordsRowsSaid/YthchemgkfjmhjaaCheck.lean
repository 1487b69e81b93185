/- The program's check, Pack, Unpack. -/
import Derived.Test.YthchemgkfjmhjaaPack
namespace Go.Proofs.Ythchemgkfjmhjaa
open Go.RowKit

theorem isRow_iff {ws : List Nat} {n : Nat} (hw : ∀ x ∈ ws, x < 2 ^ 64) : packL (rowL ws n) = ws ↔ (ws.length = (n + 63) / 64 ∧ (n % 64 = 0 ∨ ws.getD (n / 64) 0 / 2 ^ (n % 64) = 0)) := by
  rw [packL_rowL hw]
  unfold IsRow
  have hx : ws.getD (n / 64) 0 < 2 ^ 64 := by
    by_cases h : n / 64 < ws.length
    · have : ws.getD (n / 64) 0 ∈ ws := by simp [List.getD, h]
      exact hw _ this
    · rw [List.getD, List.getElem?_eq_none (by omega)]; simp
  have e : ∀ j, j < 64 → wbit ws (64 * (n / 64) + j) = (ws.getD (n / 64) 0).testBit j := fun j hj => by
    unfold wbit; rw [show (64 * (n / 64) + j) / 64 = n / 64 by omega, show (64 * (n / 64) + j) % 64 = j by omega]
  refine and_congr_right fun hl => ?_
  constructor
  · intro h
    by_cases h0 : n % 64 = 0
    · exact .inl h0
    · right
      have : ws.getD (n / 64) 0 < 2 ^ (n % 64) := by
        apply Nat.lt_pow_two_of_testBit
        intro j hj
        by_cases hj2 : j < 64
        · rw [← e j hj2]; exact h j (by omega) hj2
        · exact Nat.testBit_lt_two_pow (Nat.lt_of_lt_of_le hx (Nat.pow_le_pow_right (by omega) (by omega)))
      exact Nat.div_eq_of_lt this
  · rintro (h | h) j h1 h2
    · have : ws.length ≤ n / 64 := by omega
      rw [e j h2, List.getD, List.getElem?_eq_none this]; simp
    · rw [e j h2]
      have : ws.getD (n / 64) 0 < 2 ^ (n % 64) := by
        rcases Nat.div_eq_zero_iff.1 h with h3 | h3
        · have := Nat.pow_pos (n := n % 64) (show 0 < 2 by omega); omega
        · exact h3
      exact Nat.testBit_lt_two_pow (Nat.lt_of_lt_of_le this (Nat.pow_le_pow_right (by omega) (by omega)))

/-- What is wrong with words that are to be a row of n bits. -/
def rowE (ws : List Nat) (n : Int) : Int := if n < 0 ∨ 16384 < n then 1 else if packL (rowL ws n.toNat) = ws then 0 else 4
theorem rowE_out {ws : List Nat} {n : Int} (h : n < 0 ∨ 16384 < n) : rowE ws n = 1 := if_pos h
theorem rowE_ok {ws : List Nat} {n : Nat} (h : n ≤ 16384) (h' : packL (rowL ws n) = ws) : rowE ws n = 0 := by unfold rowE; rw [if_neg (by omega), Int.toNat_natCast, if_pos h']
theorem rowE_bad {ws : List Nat} {n : Nat} (h : n ≤ 16384) (h' : ¬ packL (rowL ws n) = ws) : rowE ws n = 4 := by unfold rowE; rw [if_neg (by omega), Int.toNat_natCast, if_neg h']
theorem rowE_zero {ws : List Nat} {n : Int} (h : rowE ws n = 0) : ∃ m : Nat, n = m ∧ m ≤ 16384 ∧ packL (rowL ws m) = ws := by
  unfold rowE at h
  by_cases h1 : n < 0 ∨ 16384 < n
  · rw [if_pos h1] at h; cases h
  · rw [if_neg h1] at h
    obtain ⟨m, rfl⟩ := Int.eq_ofNat_of_zero_le (show 0 ≤ n by omega)
    rw [Int.toNat_natCast] at h
    by_cases h2 : packL (rowL ws m) = ws
    · exact ⟨m, rfl, by omega, h2⟩
    · rw [if_neg h2] at h; cases h

set_option maxHeartbeats 2000000 in
set_option maxRecDepth 100000 in
theorem check_any (w : World) (v : Value) (ws : List Nat) (n : Int) (h : Row w v (wds ws)) (hw : ∀ x ∈ ws, x < 2 ^ 64) :
    Calls Try.prog 44 #[v, .int .i64 n] w fun e w' => e = .returned (.int .i64 (rowE ws n)) ∧ w = w' := by
  have hlen := h.len
  rw [List.length_map] at hlen
  unfold maxLen at hlen
  obtain ⟨A, c, rfl, h1, h2, h3⟩ := h
  rw [List.length_map]
  have HC := Lib.hid h3
  clear h3 h1 h2
  by_cases g1 : n < 0
  · rw [rowE_out (.inl g1)]
    go_enter Try.func44, Try.ntmps44
    go_wp2
    go_ret
    exact ⟨rfl, rfl⟩
  · by_cases g2 : 16384 < n
    · rw [rowE_out (.inr g2)]
      go_enter Try.func44, Try.ntmps44
      go_wp2
      go_ret
      exact ⟨rfl, rfl⟩
    · obtain ⟨m, rfl⟩ := Int.eq_ofNat_of_zero_le (show 0 ≤ n by omega)
      have hwo := fun wx => wordsOf_any m wx (by omega)
      have hiff := isRow_iff (n := m) hw
      have HIFF := Lib.hid hiff
      have hrE := rowE_ok (ws := ws) (n := m) (by omega)
      have hrB := rowE_bad (ws := ws) (n := m) (by omega)
      generalize rowE ws m = r at hrE hrB ⊢
      have HE := Lib.hid hrE
      have HB := Lib.hid hrB
      have HW := Lib.hid hw
      clear hrE hrB hiff hw
      by_cases g3 : ws.length = (m + 63) / 64
      · rw [← g3] at hwo
        have q3 : ((ws.length : Int) != (ws.length : Int)) = false := by simp
        have G3 := Lib.hid g3
        clear g3
        by_cases g4 : m % 64 = 0
        · have hr := HE.out (HIFF.out.2 ⟨G3.out, .inl g4⟩)
          subst hr
          have q4 : ((m : Int) % 64 != 0) = false := by simp; omega
          clear g4
          go_enter Try.func44, Try.ntmps44
          go_wp2_with (go_at_call 55; refine (hwo _).mono ?_; rintro e w' ⟨rfl, rfl⟩)
          go_ret
          exact ⟨rfl, rfl⟩
        · have q4 : ((m : Int) % 64 != 0) = true := by simp; omega
          have hlp : m / 64 < ws.length := by have := G3.out; omega
          have hle : (ws.length : Int) - 1 = ((m / 64 : Nat) : Int) := by have := G3.out; omega
          have hle2 : (ws.length : Int) - 1 = (m : Int) / 64 := by omega
          obtain ⟨b, off, rfl, hb, hcell⟩ := HC.out.word (m / 64) hlp
          have hxl : ws.getD (m / 64) 0 < 18446744073709551616 := by
            have : ws.getD (m / 64) 0 ∈ ws := by simp [List.getD, hlp]
            exact HW.out _ this
          have hiff := HIFF.out
          generalize hxx : ws.getD (m / 64) 0 = x at hcell hiff hxl
          have hdv : (x : Int) / 2 ^ (m % 64) = ((x / 2 ^ (m % 64) : Nat) : Int) := by push_cast; rfl
          have hHL := Lib.hid hle
          by_cases g5 : x / 2 ^ (m % 64) = 0
          · have hr := HE.out (hiff.2 ⟨G3.out, .inr g5⟩)
            subst hr
            rw [g5] at hdv
            clear hiff g5
            go_enter Try.func44, Try.ntmps44
            go_wp2_with (go_at_call 55; refine (hwo _).mono ?_; rintro e w' ⟨rfl, rfl⟩)
            go_ret
            exact ⟨rfl, rfl⟩
          · have hr := HB.out (fun e => (hiff.1 e).2.elim g4 g5)
            subst hr
            clear hiff
            generalize x / 2 ^ (m % 64) = y at hdv g5
            have q5 : ((y : Int) != 0) = true := by simp; omega
            go_enter Try.func44, Try.ntmps44
            go_wp2_with (go_at_call 55; refine (hwo _).mono ?_; rintro e w' ⟨rfl, rfl⟩)
            go_ret
            exact ⟨rfl, rfl⟩
      · have hr := HB.out (fun e => g3 (HIFF.out.1 e).1)
        subst hr
        have q3 : ((ws.length : Int) != (((m + 63) / 64 : Nat) : Int)) = true := by simp; omega
        generalize (m + 63) / 64 = L at hwo q3
        clear g3
        go_enter Try.func44, Try.ntmps44
        go_wp2_with (go_at_call 55; refine (hwo _).mono ?_; rintro e w' ⟨rfl, rfl⟩)
        go_ret
        exact ⟨rfl, rfl⟩

theorem Row_nil (w : World) : Row w (.slice none 0 0) [] := ⟨none, 0, rfl, by simp, by simp [maxLen], fun i hi => by simp at hi⟩

theorem Pack_bad (w : World) (v : Value) (bs : List Bool) (h : Row w v (bls bs)) (hn : 16384 < bs.length) :
    Calls Try.prog 10 #[v] w fun e w' => e = .returned (.tuple #[.slice none 0 0, .int .i64 2]) ∧ w = w' := by
  have hlen := h.len
  rw [List.length_map] at hlen
  unfold maxLen at hlen
  obtain ⟨A, c, rfl, h1, h2, h3⟩ := h
  rw [List.length_map]
  clear h1 h2 h3
  go_enter Try.func10, Try.ntmps10
  go_wp2
  go_ret2
  exact ⟨rfl, rfl⟩
theorem Pack_ok (w : World) (v : Value) (bs : List Bool) (h : Row w v (bls bs)) (hn : bs.length ≤ 16384) :
    Calls Try.prog 10 #[v] w fun e w' => ∃ v', e = .returned (.tuple #[v', .int .i64 0]) ∧ Below w.heap.size w w' ∧ w'.ownsRow w.heap.size 32 1 v' (packL bs).length (wds (packL bs)) := by
  have hp := pack_any w v bs h hn
  obtain ⟨A, c, rfl, h1, h2, h3⟩ := h
  rw [List.length_map] at hp ⊢
  have HP := Lib.hid hp
  clear h1 h2 h3 hp
  go_enter Try.func10, Try.ntmps10
  go_wp2_with (go_at_call 35; refine HP.out.mono ?_; rintro e w1 ⟨v', rfl, hb1, ho1⟩)
  go_ret2
  exact ⟨_, rfl, hb1, ho1⟩

theorem Unpack_bad (w : World) (v : Value) (ws : List Nat) (n : Int) (h : Row w v (wds ws)) (hw : ∀ x ∈ ws, x < 2 ^ 64) (hE : rowE ws n ≠ 0) :
    Calls Try.prog 23 #[v, .int .i64 n] w fun e w' => e = .returned (.tuple #[.slice none 0 0, .int .i64 (rowE ws n)]) ∧ w = w' := by
  have hc := fun wx hx => check_any wx v ws n hx hw
  have q : (rowE ws n != 0) = true := by simpa using hE
  generalize rowE ws n = r at hc q ⊢
  clear hw hE
  have H := Lib.hid h
  clear h
  go_enter Try.func23, Try.ntmps23
  go_wp2_with (go_at_call 44; refine (hc _ H.out).mono ?_; rintro e w' ⟨rfl, rfl⟩)
  go_ret2
  exact ⟨rfl, rfl⟩
theorem Unpack_ok (w : World) (v : Value) (ws : List Nat) (n : Nat) (h : Row w v (wds ws)) (hw : ∀ x ∈ ws, x < 2 ^ 64) (hE : rowE ws n = 0) :
    Calls Try.prog 23 #[v, .int .i64 n] w fun e w' => ∃ v', e = .returned (.tuple #[v', .int .i64 0]) ∧ Below w.heap.size w w' ∧ w'.ownsRow w.heap.size 4 1 v' n (bls (rowL ws n)) := by
  obtain ⟨m, hm, hm2, hm3⟩ := rowE_zero hE
  have : n = m := by omega
  subst this
  have hc := fun wx hx => check_any wx v ws n hx hw
  have hu := unpack_any w v ws n h ((isRow_iff hw).1 hm3).1 hm2 hw
  rw [hE] at hc
  have HU := Lib.hid hu
  have H := Lib.hid h
  clear hw hE hu h hm3
  go_enter Try.func23, Try.ntmps23
  go_wp2_with (first
    | (go_at_call 44; refine (hc _ H.out).mono ?_; rintro e w' ⟨rfl, rfl⟩)
    | (go_at_call 45; refine HU.out.mono ?_; rintro e w1 ⟨v', rfl, hb1, ho1⟩))
  go_ret2
  exact ⟨_, rfl, hb1, ho1⟩
end Go.Proofs.Ythchemgkfjmhjaa

/- The contracts of the functions that only compute with numbers: the program's literals (lits) and the document's (ref), and the numbers of package api. No condition beyond the ranges that each theorem names. -/
import Derived.Test.YtcppmjgglcobcaaRows
import Derived.WalkKit
import Derived.ProofKit
import Derived.OpenShut
import Derived.BigQuiet
import Derived.Deep.QuietTactic
namespace Go.Proofs.Ytcppmjgglcobcaa
open Go.RowKit

def isC (l : Int) : Bool := decide (0 ≤ l ∧ l ≤ 32769)
theorem isC_yes {l : Int} (h : isC l = true) : 0 ≤ l ∧ l ≤ 32769 := by simpa [isC] using h
theorem isC_no {l : Int} (h : isC l = false) : l < 0 ∨ 32769 < l := by simp [isC] at h; omega
def isF (x : Int) : Bool := decide (x ≠ 0 ∧ -262144 ≤ x ∧ x ≤ 262144)
theorem isF_yes {l : Int} (h : isF l = true) : l ≠ 0 ∧ -262144 ≤ l ∧ l ≤ 262144 := by simpa [isF] using h
theorem isF_no {l : Int} (h : isF l = false) : l = 0 ∨ l < -262144 ∨ 262144 < l := by simp [isF] at h; omega

theorem isC_low {l : Int} (h : l < 0) : isC l = false := by simp [isC]; omega
theorem isC_high {l : Int} (h : 32769 < l) : isC l = false := by simp [isC]; omega
theorem isC_mid {l : Int} (h : 0 ≤ l) (h' : l ≤ 32769) : isC l = true := by simp [isC]; omega
theorem isF_zero : isF 0 = false := by simp [isF]
theorem isF_low {l : Int} (h : l < -262144) : isF l = false := by simp [isF]; omega
theorem isF_high {l : Int} (h : 262144 < l) : isF l = false := by simp [isF]; omega
theorem isF_mid {l : Int} (h0 : l ≠ 0) (h : -262144 ≤ l) (h' : l ≤ 262144) : isF l = true := by simp [isF]; omega

theorem isCircuits_any (l : Int) (w : World) : Calls Try.prog 35 #[.int .i64 l] w fun e w' => e = .returned (.bool (isC l)) ∧ w = w' := by
  by_cases h0 : l < 0
  · rw [isC_low h0]
    go_enter Try.func35, Try.ntmps35
    go_wp2
    go_ret
    exact ⟨rfl, rfl⟩
  · by_cases h1 : l ≤ 32769
    · rw [isC_mid (by omega) h1]
      have h0 : 0 ≤ l := by omega
      go_enter Try.func35, Try.ntmps35
      go_wp2
      go_ret
      exact ⟨rfl, rfl⟩
    · rw [isC_high (by omega)]
      have h0 : 0 ≤ l := by omega
      have h2 : decide (l ≤ 32769) = false := by simpa using h1
      go_enter Try.func35, Try.ntmps35
      go_wp2
      go_ret
      exact ⟨rfl, rfl⟩

theorem IsLit_any (l : Int) (w : World) : Calls Try.prog 36 #[.int .i64 l] w fun e w' => e = .returned (.bool (isC l)) ∧ w = w' := by
  by_cases h0 : l < 0
  · rw [isC_low h0]
    have h2 : decide (0 ≤ l) = false := by simpa using h0
    go_enter Try.func36, Try.ntmps36
    go_wp2
    go_ret
    exact ⟨rfl, rfl⟩
  · by_cases h1 : l ≤ 32769
    · rw [isC_mid (by omega) h1]
      have h0 : 0 ≤ l := by omega
      go_enter Try.func36, Try.ntmps36
      go_wp2
      go_ret
      exact ⟨rfl, rfl⟩
    · rw [isC_high (by omega)]
      have h0 : 0 ≤ l := by omega
      have h2 : decide (l ≤ 32769) = false := by simpa using h1
      go_enter Try.func36, Try.ntmps36
      go_wp2
      go_ret
      exact ⟨rfl, rfl⟩

theorem isFormulas_any (x : Int) (w : World) : Calls Try.prog 38 #[.int .i64 x] w fun e w' => e = .returned (.bool (isF x)) ∧ w = w' := by
  by_cases h0 : x = 0
  · subst h0
    rw [isF_zero]
    go_enter Try.func38, Try.ntmps38
    go_wp2
    go_ret
    exact ⟨rfl, rfl⟩
  · have e0 : (x == 0) = false := by simpa using h0
    have e1 : (x != 0) = true := by simpa using h0
    by_cases h1 : x < -262144
    · rw [isF_low h1]
      have h2 : decide (-262144 ≤ x) = false := by simpa using h1
      go_enter Try.func38, Try.ntmps38
      go_wp2
      go_ret
      exact ⟨rfl, rfl⟩
    · by_cases h3 : x ≤ 262144
      · rw [isF_mid h0 (by omega) h3]
        have h1 : -262144 ≤ x := by omega
        go_enter Try.func38, Try.ntmps38
        go_wp2
        go_ret
        exact ⟨rfl, rfl⟩
      · rw [isF_high (by omega)]
        have h1 : -262144 ≤ x := by omega
        have h2 : decide (x ≤ 262144) = false := by simpa using h3
        go_enter Try.func38, Try.ntmps38
        go_wp2
        go_ret
        exact ⟨rfl, rfl⟩

theorem IsForm_any (x : Int) (w : World) : Calls Try.prog 40 #[.int .i64 x] w fun e w' => e = .returned (.bool (isF x)) ∧ w = w' := by
  by_cases h0 : x = 0
  · subst h0
    rw [isF_zero]
    go_enter Try.func40, Try.ntmps40
    go_wp2
    go_ret
    exact ⟨rfl, rfl⟩
  · have e0 : (x == 0) = false := by simpa using h0
    have e1 : (x != 0) = true := by simpa using h0
    by_cases h1 : x < -262144
    · rw [isF_low h1]
      have h2 : decide (-262144 ≤ x) = false := by simpa using h1
      go_enter Try.func40, Try.ntmps40
      go_wp2
      go_ret
      exact ⟨rfl, rfl⟩
    · by_cases h3 : x ≤ 262144
      · rw [isF_mid h0 (by omega) h3]
        have h1 : -262144 ≤ x := by omega
        go_enter Try.func40, Try.ntmps40
        go_wp2
        go_ret
        exact ⟨rfl, rfl⟩
      · rw [isF_high (by omega)]
        have h1 : -262144 ≤ x := by omega
        have h2 : decide (x ≤ 262144) = false := by simpa using h3
        go_enter Try.func40, Try.ntmps40
        go_wp2
        go_ret
        exact ⟨rfl, rfl⟩

def absI (x : Int) : Int := max x (-x)
theorem absI_pos {x : Int} (h : 0 ≤ x) : absI x = x := by unfold absI; omega
theorem absI_neg {x : Int} (h : x < 0) : absI x = -x := by unfold absI; omega
theorem absI_nn (x : Int) : 0 ≤ absI x := by unfold absI; omega

theorem variable_any (x : Int) (w : World) (h0 : -262144 ≤ x) (h1 : x ≤ 262144) : Calls Try.prog 39 #[.int .i64 x] w fun e w' => e = .returned (.int .i64 (absI x)) ∧ w = w' := by
  by_cases h : 0 ≤ x
  · rw [absI_pos h]
    go_enter Try.func39, Try.ntmps39
    go_wp2
    go_ret
    exact ⟨by congr 2, rfl⟩
  · rw [absI_neg (by omega)]
    go_enter Try.func39, Try.ntmps39
    go_wp2
    go_ret
    exact ⟨by congr 2, rfl⟩

theorem Abs_any (x : Int) (w : World) (h0 : -262144 ≤ x) (h1 : x ≤ 262144) : Calls Try.prog 41 #[.int .i64 x] w fun e w' => e = .returned (.int .i64 (absI x)) ∧ w = w' := by
  by_cases h : x < 0
  · rw [absI_neg h]
    go_enter Try.func41, Try.ntmps41
    go_wp2
    go_ret
    exact ⟨rfl, rfl⟩
  · rw [absI_pos (by omega)]
    go_enter Try.func41, Try.ntmps41
    go_wp2
    go_ret
    exact ⟨rfl, rfl⟩

def notV (l : Int) : Int := if l % 2 = 0 then l + 1 else l - 1
theorem notV_even {l : Int} (h : l % 2 = 0) : notV l = l + 1 := if_pos h
theorem notV_odd {l : Int} (h : ¬ l % 2 = 0) : notV l = l - 1 := if_neg h
theorem xor_one (n : Nat) : n ^^^ 1 = if n % 2 = 0 then n + 1 else n - 1 := by
  have h1 : (n ^^^ 1) / 2 = n / 2 ^^^ 1 / 2 := Nat.xor_div_two
  have h2 : (n ^^^ 1) % 2 = n % 2 ^^^ 1 % 2 := Nat.xor_mod_two_pow (n := 1)
  simp at h1
  rcases Nat.mod_two_eq_zero_or_one n with h | h <;> rw [h] at h2
  · have h3 : (0 ^^^ 1 % 2) = 1 := rfl
    rw [h3] at h2; rw [if_pos h]; omega
  · have h3 : (1 ^^^ 1 % 2) = 0 := rfl
    rw [h3] at h2; rw [if_neg (by omega)]; omega
theorem bits_xor_one (l : Int) (h0 : 0 ≤ l) (h1 : l ≤ 32769) : bits .xor .i64 l 1 = notV l := by
  obtain ⟨n, rfl⟩ := Int.eq_ofNat_of_zero_le h0
  have g1 : (BitVec.ofInt 64 (n : Int)).toNat = n := by
    rw [BitVec.ofInt_natCast, BitVec.toNat_ofNat]; exact Nat.mod_eq_of_lt (by omega)
  have g2 : (BitVec.ofInt 64 (1 : Int)).toNat = 1 := by decide
  show IntKind.i64.wrap ((BitVec.ofInt 64 (n : Int) ^^^ BitVec.ofInt 64 (1 : Int)).toNat : Int) = _
  rw [BitVec.toNat_xor, g1, g2, xor_one]
  unfold notV
  by_cases h : n % 2 = 0
  · rw [if_pos h, if_pos (by omega)]
    simp [IntKind.wrap, IntKind.bits, IntKind.signed]; omega
  · rw [if_neg h, if_neg (by omega)]
    simp [IntKind.wrap, IntKind.bits, IntKind.signed]; omega

theorem Not_yes (l : Int) (w : World) (h : isC l = true) : Calls Try.prog 9 #[.int .i64 l] w fun e w' => e = .returned (.tuple #[.int .i64 (notV l), .int .i64 0]) ∧ w = w' := by
  have hb := isC_yes h
  have hx := bits_xor_one l hb.1 hb.2
  generalize notV l = r at hx ⊢
  obtain ⟨h0, h1⟩ := hb
  go_enter Try.func9, Try.ntmps9
  go_wp2_with (go_at_call 35; refine (isCircuits_any _ _).mono ?_; rw [h]; rintro e w' ⟨rfl, rfl⟩)
  go_ret2
  exact ⟨rfl, rfl⟩

theorem Not_no (l : Int) (w : World) (h : isC l = false) : Calls Try.prog 9 #[.int .i64 l] w fun e w' => e = .returned (.tuple #[.int .i64 0, .int .i64 1]) ∧ w = w' := by
  go_enter Try.func9, Try.ntmps9
  go_wp2_with (go_at_call 35; refine (isCircuits_any _ _).mono ?_; rw [h]; rintro e w' ⟨rfl, rfl⟩)
  go_ret2
  exact ⟨rfl, rfl⟩

theorem RNot_no (l : Int) (w : World) (h : isC l = false) : Calls Try.prog 10 #[.int .i64 l] w fun e w' => e = .returned (.tuple #[.int .i64 0, .int .i64 1]) ∧ w = w' := by
  go_enter Try.func10, Try.ntmps10
  go_wp2_with (go_at_call 36; refine (IsLit_any _ _).mono ?_; rw [h]; rintro e w' ⟨rfl, rfl⟩)
  go_ret2
  exact ⟨rfl, rfl⟩

theorem RNot_yes (l : Int) (w : World) (h : isC l = true) : Calls Try.prog 10 #[.int .i64 l] w fun e w' => e = .returned (.tuple #[.int .i64 (notV l), .int .i64 0]) ∧ w = w' := by
  obtain ⟨h0, h1⟩ := isC_yes h
  by_cases hp : l % 2 = 0
  · rw [notV_even hp]
    have hq : (l % 2 == 0) = true := by simpa using hp
    clear hp
    go_enter Try.func10, Try.ntmps10
    go_wp2_with (go_at_call 36; refine (IsLit_any _ _).mono ?_; rw [h]; rintro e w' ⟨rfl, rfl⟩)
    go_ret2
    exact ⟨rfl, rfl⟩
  · rw [notV_odd hp]
    have hq : (l % 2 == 0) = false := by simpa using hp
    clear hp
    go_enter Try.func10, Try.ntmps10
    go_wp2_with (go_at_call 36; refine (IsLit_any _ _).mono ?_; rw [h]; rintro e w' ⟨rfl, rfl⟩)
    go_ret2
    exact ⟨rfl, rfl⟩

def toV (l : Int) : Int := if l % 2 = 1 then -(l / 2 + 1) else l / 2 + 1
theorem toV_odd {l : Int} (h : l % 2 = 1) : toV l = -(l / 2 + 1) := if_pos h
theorem toV_even {l : Int} (h : ¬ l % 2 = 1) : toV l = l / 2 + 1 := if_neg h

theorem To_no (l : Int) (w : World) (h : isC l = false) : Calls Try.prog 11 #[.int .i64 l] w fun e w' => e = .returned (.tuple #[.int .i64 0, .int .i64 1]) ∧ w = w' := by
  go_enter Try.func11, Try.ntmps11
  go_wp2_with (go_at_call 35; refine (isCircuits_any _ _).mono ?_; rw [h]; rintro e w' ⟨rfl, rfl⟩)
  go_ret2
  exact ⟨rfl, rfl⟩

theorem To_yes (l : Int) (w : World) (h : isC l = true) : Calls Try.prog 11 #[.int .i64 l] w fun e w' => e = .returned (.tuple #[.int .i64 (toV l), .int .i64 0]) ∧ w = w' := by
  obtain ⟨h0, h1⟩ := isC_yes h
  by_cases hp : l % 2 = 1
  · rw [toV_odd hp]
    have hq : (l % 2 == 1) = true := by simpa using hp
    clear hp
    go_enter Try.func11, Try.ntmps11
    go_wp2_with (go_at_call 35; refine (isCircuits_any _ _).mono ?_; rw [h]; rintro e w' ⟨rfl, rfl⟩)
    go_ret2
    exact ⟨rfl, rfl⟩
  · rw [toV_even hp]
    have hq : (l % 2 == 1) = false := by simpa using hp
    clear hp
    go_enter Try.func11, Try.ntmps11
    go_wp2_with (go_at_call 35; refine (isCircuits_any _ _).mono ?_; rw [h]; rintro e w' ⟨rfl, rfl⟩)
    go_ret2
    exact ⟨rfl, rfl⟩

theorem Form_any (l : Int) (w : World) (h : isC l = true) : Calls Try.prog 37 #[.int .i64 l] w fun e w' => e = .returned (.int .i64 (toV l)) ∧ w = w' := by
  obtain ⟨h0, h1⟩ := isC_yes h
  by_cases hp : l % 2 = 1
  · rw [toV_odd hp]
    have hq : (l % 2 == 1) = true := by simpa using hp
    clear hp
    go_enter Try.func37, Try.ntmps37
    go_wp2
    go_ret
    exact ⟨rfl, rfl⟩
  · rw [toV_even hp]
    have hq : (l % 2 == 1) = false := by simpa using hp
    clear hp
    go_enter Try.func37, Try.ntmps37
    go_wp2
    go_ret
    exact ⟨rfl, rfl⟩

theorem RTo_no (l : Int) (w : World) (h : isC l = false) : Calls Try.prog 12 #[.int .i64 l] w fun e w' => e = .returned (.tuple #[.int .i64 0, .int .i64 1]) ∧ w = w' := by
  go_enter Try.func12, Try.ntmps12
  go_wp2_with (go_at_call 36; refine (IsLit_any _ _).mono ?_; rw [h]; rintro e w' ⟨rfl, rfl⟩)
  go_ret2
  exact ⟨rfl, rfl⟩

theorem RTo_yes (l : Int) (w : World) (h : isC l = true) : Calls Try.prog 12 #[.int .i64 l] w fun e w' => e = .returned (.tuple #[.int .i64 (toV l), .int .i64 0]) ∧ w = w' := by
  go_enter Try.func12, Try.ntmps12
  go_wp2_with (first | (go_at_call 36; refine (IsLit_any _ _).mono ?_; rw [h]; rintro e w' ⟨rfl, rfl⟩) | (go_at_call 37; refine (Form_any _ _ h).mono ?_; rintro e w' ⟨rfl, rfl⟩))
  go_ret2
  exact ⟨rfl, rfl⟩

/-- What From takes. -/
def isX (x : Int) : Bool := decide (x ≠ 0 ∧ -16385 ≤ x ∧ x ≤ 16385)
theorem isX_yes {x : Int} (h : isX x = true) : x ≠ 0 ∧ -16385 ≤ x ∧ x ≤ 16385 := by simpa [isX] using h
theorem isX_no {x : Int} (h : isX x = false) (hF : isF x = true) : -262144 ≤ x ∧ x ≤ 262144 ∧ 16385 < absI x := by
  have := isF_yes hF; simp [isX] at h; unfold absI; omega
theorem isX_F {x : Int} (h : isX x = true) : isF x = true := by have := isX_yes h; apply isF_mid <;> omega
def fromV (x : Int) : Int := if x < 0 then 2 * (-x - 1) + 1 else 2 * (x - 1)
theorem fromV_neg {x : Int} (h : x < 0) : fromV x = 2 * (-x - 1) + 1 := if_pos h
theorem fromV_pos {x : Int} (h : ¬ x < 0) : fromV x = 2 * (x - 1) := if_neg h

theorem From_no (x : Int) (w : World) (h : isX x = false) : Calls Try.prog 13 #[.int .i64 x] w fun e w' => e = .returned (.tuple #[.int .i64 0, .int .i64 1]) ∧ w = w' := by
  cases hF : isF x
  · go_enter Try.func13, Try.ntmps13
    go_wp2_with (go_at_call 38; refine (isFormulas_any _ _).mono ?_; rw [hF]; rintro e w' ⟨rfl, rfl⟩)
    go_ret2
    exact ⟨rfl, rfl⟩
  · obtain ⟨h0, h1, h2⟩ := isX_no h hF
    go_enter Try.func13, Try.ntmps13
    go_wp2_with (first | (go_at_call 38; refine (isFormulas_any _ _).mono ?_; rw [hF]; rintro e w' ⟨rfl, rfl⟩) | (go_at_call 39; refine (variable_any _ _ h0 h1).mono ?_; rintro e w' ⟨rfl, rfl⟩))
    go_ret2
    exact ⟨rfl, rfl⟩

theorem RFrom_no (x : Int) (w : World) (h : isX x = false) : Calls Try.prog 14 #[.int .i64 x] w fun e w' => e = .returned (.tuple #[.int .i64 0, .int .i64 1]) ∧ w = w' := by
  cases hF : isF x
  · go_enter Try.func14, Try.ntmps14
    go_wp2_with (go_at_call 40; refine (IsForm_any _ _).mono ?_; rw [hF]; rintro e w' ⟨rfl, rfl⟩)
    go_ret2
    exact ⟨rfl, rfl⟩
  · obtain ⟨h0, h1, h2⟩ := isX_no h hF
    go_enter Try.func14, Try.ntmps14
    go_wp2_with (first | (go_at_call 40; refine (IsForm_any _ _).mono ?_; rw [hF]; rintro e w' ⟨rfl, rfl⟩) | (go_at_call 41; refine (Abs_any _ _ h0 h1).mono ?_; rintro e w' ⟨rfl, rfl⟩))
    go_ret2
    exact ⟨rfl, rfl⟩

theorem From_yes (x : Int) (w : World) (h : isX x = true) : Calls Try.prog 13 #[.int .i64 x] w fun e w' => e = .returned (.tuple #[.int .i64 (fromV x), .int .i64 0]) ∧ w = w' := by
  have hF := isX_F h
  obtain ⟨h0, h1, h2⟩ := isX_yes h
  have g1 : -262144 ≤ x := by omega
  have g2 : x ≤ 262144 := by omega
  by_cases hn : x < 0
  · have ha := absI_neg hn
    rw [fromV_neg hn]
    have hv : ∀ w, Calls Try.prog 39 #[.int .i64 x] w fun e w' => e = .returned (.int .i64 (-x)) ∧ w = w' := by
      intro w; have := variable_any x w g1 g2; rwa [ha] at this
    clear ha h0
    go_enter Try.func13, Try.ntmps13
    go_wp2_with (first | (go_at_call 38; refine (isFormulas_any _ _).mono ?_; rw [hF]; rintro e w' ⟨rfl, rfl⟩) | (go_at_call 39; refine (hv _).mono ?_; rintro e w' ⟨rfl, rfl⟩))
    go_ret2
    exact ⟨rfl, rfl⟩
  · have ha := absI_pos (x := x) (by omega)
    rw [fromV_pos hn]
    have hv : ∀ w, Calls Try.prog 39 #[.int .i64 x] w fun e w' => e = .returned (.int .i64 x) ∧ w = w' := by
      intro w; have := variable_any x w g1 g2; rwa [ha] at this
    clear ha h0
    have hp : 0 ≤ x := by omega
    go_enter Try.func13, Try.ntmps13
    go_wp2_with (first | (go_at_call 38; refine (isFormulas_any _ _).mono ?_; rw [hF]; rintro e w' ⟨rfl, rfl⟩) | (go_at_call 39; refine (hv _).mono ?_; rintro e w' ⟨rfl, rfl⟩))
    go_ret2
    exact ⟨rfl, rfl⟩

theorem RFrom_yes (x : Int) (w : World) (h : isX x = true) : Calls Try.prog 14 #[.int .i64 x] w fun e w' => e = .returned (.tuple #[.int .i64 (fromV x), .int .i64 0]) ∧ w = w' := by
  have hF := isX_F h
  obtain ⟨h0, h1, h2⟩ := isX_yes h
  have g1 : -262144 ≤ x := by omega
  have g2 : x ≤ 262144 := by omega
  by_cases hn : x < 0
  · have ha := absI_neg hn
    rw [fromV_neg hn]
    have hv : ∀ w, Calls Try.prog 41 #[.int .i64 x] w fun e w' => e = .returned (.int .i64 (-x)) ∧ w = w' := by
      intro w; have := Abs_any x w g1 g2; rwa [ha] at this
    clear ha h0
    go_enter Try.func14, Try.ntmps14
    go_wp2_with (first | (go_at_call 40; refine (IsForm_any _ _).mono ?_; rw [hF]; rintro e w' ⟨rfl, rfl⟩) | (go_at_call 41; refine (hv _).mono ?_; rintro e w' ⟨rfl, rfl⟩))
    go_ret2
    exact ⟨rfl, rfl⟩
  · have ha := absI_pos (x := x) (by omega)
    rw [fromV_pos hn]
    have hv : ∀ w, Calls Try.prog 41 #[.int .i64 x] w fun e w' => e = .returned (.int .i64 x) ∧ w = w' := by
      intro w; have := Abs_any x w g1 g2; rwa [ha] at this
    clear ha h0
    have hp : 0 ≤ x := by omega
    go_enter Try.func14, Try.ntmps14
    go_wp2_with (first | (go_at_call 40; refine (IsForm_any _ _).mono ?_; rw [hF]; rintro e w' ⟨rfl, rfl⟩) | (go_at_call 41; refine (hv _).mono ?_; rintro e w' ⟨rfl, rfl⟩))
    go_ret2
    exact ⟨rfl, rfl⟩

theorem names_any (w : World) : Calls Try.prog 15 #[] w fun e w' => e = .returned (.bool true) ∧ w = w' := by
  go_enter Try.func15, Try.ntmps15
  go_wp2
  go_ret
  exact ⟨rfl, rfl⟩
end Go.Proofs.Ytcppmjgglcobcaa

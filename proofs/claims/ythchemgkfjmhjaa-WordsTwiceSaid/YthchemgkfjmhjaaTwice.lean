/- WordsTwice's walk: a shift by a and one by b the same way are one by both; what differs from itself is nothing. -/
import Derived.Test.YthchemgkfjmhjaaWorks2
import Derived.Test.YthchemgkfjmhjaaJoin
namespace Go.Proofs.Ythchemgkfjmhjaa
open Go.RowKit

theorem shiftL_twice (ps : List Bool) (a b : Int) (h : (0 ≤ a ∧ 0 ≤ b) ∨ (a ≤ 0 ∧ b ≤ 0)) : shiftL (shiftL ps a) b = shiftL ps (a + b) := by
  refine ext_bits (by rw [shiftL_len, shiftL_len, shiftL_len]) fun i hi => ?_
  rw [shiftL_len] at hi
  rw [shiftL_bit _ _ _ (by rw [shiftL_len]; exact hi), shiftL_bit _ _ _ hi]
  have e : (i : Int) - (a + b) = (i : Int) - b - a := by omega
  rw [e]
  by_cases h0 : 0 ≤ (i : Int) - b
  · rw [if_pos h0]
    obtain ⟨j, hj⟩ := Int.eq_ofNat_of_zero_le h0
    rw [hj, Int.toNat_natCast]
    by_cases hjl : j < ps.length
    · rw [shiftL_bit _ _ _ hjl]
    · have e1 : bit (shiftL ps a) j = false := by
        unfold bit
        rw [List.getD, List.getElem?_eq_none (by rw [shiftL_len]; omega)]; rfl
      rw [e1]
      by_cases h1 : 0 ≤ (j : Int) - a
      · rw [if_pos h1]
        unfold bit
        rw [List.getD, List.getElem?_eq_none (by omega)]; rfl
      · rw [if_neg h1]
  · rw [if_neg h0, if_neg (by omega)]
theorem xor_self_none (ps : List Nat) : zipW (fun x y => x ^^^ y) ps ps = mkw ps.length fun _ => 0 := mkw_congr fun _i _ => Nat.xor_self _
theorem pops_none (n : Nat) : pops (mkw n fun _ => 0) = 0 := by
  unfold pops
  rw [List.map_map]
  induction n with
  | zero => rfl
  | succ n ih =>
    rw [List.range_succ, List.map_append, List.sum_append, ih]
    simp [pop_zero]
theorem none_lt (n : Nat) : ∀ x ∈ mkw n (fun _ => 0), x < 2 ^ 64 := by
  intro x hx
  obtain ⟨_, _, rfl⟩ := List.mem_map.1 hx
  omega

set_option maxHeartbeats 4000000 in
set_option maxRecDepth 100000 in
theorem twice_walk (w : World) (v : Value) (ps : List Bool) (a b : Int) (h : Row w v (bls ps)) (hlb : ps.length * 1 ≤ 140737488351232) (ha : -9223372036854775808 ≤ a ∧ a ≤ 9223372036854775807) (hb : -9223372036854775808 ≤ b ∧ b ≤ 9223372036854775807) :
    Calls Try.prog 9 #[v, .int .i64 a, .int .i64 b] w fun e w' => e = .returned (.bool true) ∧ Below w.heap.size w w' := by
  have HR := Lib.hid h
  by_cases hn : 16384 < ps.length
  · have hp := fun wx hx => Pack_bad wx v ps hx hn
    obtain ⟨A, c, rfl, h1, h2, h3⟩ := h
    rw [List.length_map] at hp ⊢
    rw [List.length_map] at HR
    clear h1 h2 h3
    go_enter Try.func9, Try.ntmps9
    go_wp2_with (first
      | (go_at_call 18; refine (works_any _).mono ?_; rintro e w1 ⟨rfl, hb1⟩; have HB1 := Lib.hid hb1; clear hb1)
      | (go_at_call 10; refine (hp _ (HR.out.below HB1.out)).mono ?_; rintro e w' ⟨rfl, rfl⟩))
    go_ret
    exact ⟨rfl, HB1.out⟩
  · have hn' : ps.length ≤ 16384 := by omega
    have hni : (ps.length : Int) ≤ 16384 := by omega
    have hp := fun wx hx => Pack_ok wx v ps hx hn'
    have hrE : ∀ rs : List Bool, rs.length = ps.length → rowE (packL rs) ps.length = 0 := fun rs hrs => rowE_ok hn' (by rw [← hrs, rowL_packL])
    have hrl : ∀ rs : List Bool, rs.length = ps.length → rowL (packL rs) ps.length = rs := fun rs hrs => by rw [← hrs, rowL_packL]
    have hsh : ∀ wx vx rs (c : Int), rs.length = ps.length → (-9223372036854775808 ≤ c ∧ c ≤ 9223372036854775807) → Row wx vx (wds (packL rs)) →
        Calls Try.prog 25 #[vx, .int .i64 ps.length, .int .i64 c] wx fun e w' => ∃ v', e = .returned (.tuple #[v', .int .i64 0]) ∧ Below wx.heap.size wx w' ∧ w'.ownsRow wx.heap.size 32 1 v' (packL (shiftL rs c)).length (wds (packL (shiftL rs c))) := fun wx vx rs c hrs hc hx => by
      have := Shift_ok wx vx (packL rs) ps.length c hx (packL_lt rs) (hrE rs hrs) hc
      rwa [hrl rs hrs] at this
    have hdf : ∀ wx vx ux rs, rs.length = ps.length → Row wx vx (wds (packL rs)) → Row wx ux (wds (packL rs)) →
        Calls Try.prog 31 #[vx, ux] wx fun e w' => ∃ v', e = .returned (.tuple #[v', .int .i64 0]) ∧ Below wx.heap.size wx w' ∧ Row w' v' (wds (mkw (packL rs).length fun _ => 0)) := fun wx vx ux rs hrs hx hy => by
      have h0 : twoE (packL rs) (packL rs) = 0 := twoE_ok (by rw [packL_len]; omega) rfl
      have := Differ_ok wx vx ux (packL rs) (packL rs) hx hy (packL_lt rs) (packL_lt rs) h0
      rw [xor_self_none] at this
      refine this.mono ?_
      rintro e w' ⟨v', he, hb', ho⟩
      exact ⟨v', he, hb', own_row ho⟩
    have hon : ∀ wx vx k, k ≤ 16384 → Row wx vx (wds (mkw k fun _ => 0)) → Calls Try.prog 27 #[vx] wx fun e w' => e = .returned (.int .i64 0) ∧ wx = w' := fun wx vx k hk hx => by
      have := Ones_any wx vx _ hx (none_lt k) (by simp; omega)
      rw [pops_none] at this; exact this
    have hpl : ∀ rs : List Bool, rs.length = ps.length → (packL rs).length = (packL ps).length := fun rs hrs => by rw [packL_len, packL_len, hrs]
    have hpk : (packL ps).length ≤ 16384 := by rw [packL_len]; omega
    have htw := shiftL_twice ps a
    have hsl := fun rs c => shiftL_len rs c
    obtain ⟨A, c, rfl, h1, h2, h3⟩ := h
    rw [List.length_map] at hp ⊢
    rw [List.length_map] at HR
    have HRE := Lib.hid hrE
    have HSH := Lib.hid hsh
    have HDF := Lib.hid hdf
    have HON := Lib.hid hon
    have HPL := Lib.hid hpl
    have HPK := Lib.hid hpk
    have HTW := Lib.hid htw
    have HSL := Lib.hid hsl
    clear h1 h2 h3 hrE hrl hsh hdf hon hpl hpk hn htw hsl
    by_cases a1 : a < -40000
    · skip
      go_enter Try.func9, Try.ntmps9
      go_wp2_with (first
        | (go_at_call 18; refine (works_any _).mono ?_; rintro e w1 ⟨rfl, hb1⟩; have HB1 := Lib.hid hb1; clear hb1)
        | (go_at_call 10; refine (hp _ (HR.out.below HB1.out)).mono ?_; rintro e w2 ⟨v2, rfl, hb2, ho2⟩; have HB2 := Lib.hid (bt HB1.out (Nat.le_refl _) hb2); have HO2 := Lib.hid (own_row ho2); have HL2 := Lib.hid (own_len ho2); clear hb2 ho2))
      go_ret
      exact ⟨rfl, HB2.out⟩
    · by_cases a2 : 40000 < a
      · skip
        go_enter Try.func9, Try.ntmps9
        go_wp2_with (first
          | (go_at_call 18; refine (works_any _).mono ?_; rintro e w1 ⟨rfl, hb1⟩; have HB1 := Lib.hid hb1; clear hb1)
          | (go_at_call 10; refine (hp _ (HR.out.below HB1.out)).mono ?_; rintro e w2 ⟨v2, rfl, hb2, ho2⟩; have HB2 := Lib.hid (bt HB1.out (Nat.le_refl _) hb2); have HO2 := Lib.hid (own_row ho2); have HL2 := Lib.hid (own_len ho2); clear hb2 ho2))
        go_ret
        exact ⟨rfl, HB2.out⟩
      · by_cases b1 : b < -40000
        · skip
          go_enter Try.func9, Try.ntmps9
          go_wp2_with (first
            | (go_at_call 18; refine (works_any _).mono ?_; rintro e w1 ⟨rfl, hb1⟩; have HB1 := Lib.hid hb1; clear hb1)
            | (go_at_call 10; refine (hp _ (HR.out.below HB1.out)).mono ?_; rintro e w2 ⟨v2, rfl, hb2, ho2⟩; have HB2 := Lib.hid (bt HB1.out (Nat.le_refl _) hb2); have HO2 := Lib.hid (own_row ho2); have HL2 := Lib.hid (own_len ho2); clear hb2 ho2))
          go_ret
          exact ⟨rfl, HB2.out⟩
        · by_cases b2 : 40000 < b
          · skip
            go_enter Try.func9, Try.ntmps9
            go_wp2_with (first
              | (go_at_call 18; refine (works_any _).mono ?_; rintro e w1 ⟨rfl, hb1⟩; have HB1 := Lib.hid hb1; clear hb1)
              | (go_at_call 10; refine (hp _ (HR.out.below HB1.out)).mono ?_; rintro e w2 ⟨v2, rfl, hb2, ho2⟩; have HB2 := Lib.hid (bt HB1.out (Nat.le_refl _) hb2); have HO2 := Lib.hid (own_row ho2); have HL2 := Lib.hid (own_len ho2); clear hb2 ho2))
            go_ret
            exact ⟨rfl, HB2.out⟩
          · by_cases s1 : a < 0 ∧ 0 < b
            · obtain ⟨s2, s3⟩ := s1
              have hc : -9223372036854775808 ≤ -b ∧ -b ≤ 9223372036854775807 := by omega
              have hac : -9223372036854775808 ≤ a + -b ∧ a + -b ≤ 9223372036854775807 := by omega
              have htw := HTW.out (-b) (by omega)
              clear HTW
              have hss : ∀ c, (shiftL (shiftL ps a) c).length = ps.length := fun c => by rw [HSL.out, HSL.out]
              go_enter Try.func9, Try.ntmps9
              go_wp2_with (first
                | (go_at_call 18; refine (works_any _).mono ?_; rintro e w1 ⟨rfl, hb1⟩; have HB1 := Lib.hid hb1; clear hb1)
                | (go_at_call 10; refine (hp _ (HR.out.below HB1.out)).mono ?_; rintro e w2 ⟨v2, rfl, hb2, ho2⟩; have HB2 := Lib.hid (bt HB1.out (Nat.le_refl _) hb2); have HO2 := Lib.hid (own_row ho2); have HL2 := Lib.hid (own_len ho2); clear hb2 ho2)
                | (go_at_call 25; with_reducible refine (HSH.out w2 v2 ps a rfl ha HO2.out).mono ?_; rintro e w3 ⟨v3, rfl, hb3, ho3⟩; have HB3 := Lib.hid (bt HB2.out (Nat.le_refl _) hb3); have HO3 := Lib.hid (own_row ho3); have HW3 := Lib.hid (HO2.out.below hb3); clear hb3 ho3)
                | (go_at_call 25; with_reducible refine (HSH.out w3 v3 (shiftL ps a) (-b) (HSL.out _ _) hc HO3.out).mono ?_; rintro e w4 ⟨v4, rfl, hb4, ho4⟩; have HB4 := Lib.hid (bt HB3.out (Nat.le_refl _) hb4); have HO4 := Lib.hid (own_row ho4); have HW4 := Lib.hid (HW3.out.below hb4); have HL4 := Lib.hid (own_len ho4); clear hb4 ho4)
                | (go_at_call 25; with_reducible refine (HSH.out w4 v2 ps (a + -b) rfl hac HW4.out).mono ?_; rintro e w5 ⟨v5, rfl, hb5, ho5⟩; have HB5 := Lib.hid (bt HB4.out (Nat.le_refl _) hb5); have HO5 := Lib.hid (own_row ho5); have HW5 := Lib.hid (HW4.out.below hb5); have HY5 := Lib.hid (HO4.out.below hb5); clear hb5 ho5)
                | (go_at_call 31; with_reducible refine (HDF.out w5 v4 v5 (shiftL ps (a + -b)) (HSL.out _ _) (htw ▸ HY5.out) HO5.out).mono ?_; rintro e w6 ⟨v6, rfl, hb6, ho6⟩; have HB6 := Lib.hid (bt HB5.out (Nat.le_refl _) hb6); have HO6 := Lib.hid ho6; have HW6 := Lib.hid (HW5.out.below hb6); clear hb6 ho6)
                | (go_at_call 31; with_reducible refine (HDF.out w6 v2 v2 ps rfl HW6.out HW6.out).mono ?_; rintro e w7 ⟨v7, rfl, hb7, ho7⟩; have HB7 := Lib.hid (bt HB6.out (Nat.le_refl _) hb7); have HO7 := Lib.hid ho7; have HD7 := Lib.hid (HO6.out.below hb7); clear hb7 ho7)
                | (go_at_call 27; with_reducible refine (HON.out w7 v6 _ (by rw [HPL.out _ (HSL.out _ _)]; exact HPK.out) HD7.out).mono ?_; rintro e w' ⟨rfl, rfl⟩)
                | (go_at_call 27; with_reducible refine (HON.out w7 v7 _ HPK.out HO7.out).mono ?_; rintro e w' ⟨rfl, rfl⟩; obtain ⟨A2, c2, rfl⟩ := HL2.out; obtain ⟨A4, c4, h4⟩ := HL4.out; rw [HPL.out (shiftL (shiftL ps a) (-b)) (hss (-b))] at h4; subst h4))
              go_ret
              exact ⟨rfl, HB7.out⟩
            · by_cases s4 : 0 < a ∧ b < 0
              · obtain ⟨s2, s3⟩ := s4
                have hc : -9223372036854775808 ≤ -b ∧ -b ≤ 9223372036854775807 := by omega
                have hac : -9223372036854775808 ≤ a + -b ∧ a + -b ≤ 9223372036854775807 := by omega
                have htw := HTW.out (-b) (by omega)
                clear HTW
                have hss : ∀ c, (shiftL (shiftL ps a) c).length = ps.length := fun c => by rw [HSL.out, HSL.out]
                go_enter Try.func9, Try.ntmps9
                go_wp2_with (first
                  | (go_at_call 18; refine (works_any _).mono ?_; rintro e w1 ⟨rfl, hb1⟩; have HB1 := Lib.hid hb1; clear hb1)
                  | (go_at_call 10; refine (hp _ (HR.out.below HB1.out)).mono ?_; rintro e w2 ⟨v2, rfl, hb2, ho2⟩; have HB2 := Lib.hid (bt HB1.out (Nat.le_refl _) hb2); have HO2 := Lib.hid (own_row ho2); have HL2 := Lib.hid (own_len ho2); clear hb2 ho2)
                  | (go_at_call 25; with_reducible refine (HSH.out w2 v2 ps a rfl ha HO2.out).mono ?_; rintro e w3 ⟨v3, rfl, hb3, ho3⟩; have HB3 := Lib.hid (bt HB2.out (Nat.le_refl _) hb3); have HO3 := Lib.hid (own_row ho3); have HW3 := Lib.hid (HO2.out.below hb3); clear hb3 ho3)
                  | (go_at_call 25; with_reducible refine (HSH.out w3 v3 (shiftL ps a) (-b) (HSL.out _ _) hc HO3.out).mono ?_; rintro e w4 ⟨v4, rfl, hb4, ho4⟩; have HB4 := Lib.hid (bt HB3.out (Nat.le_refl _) hb4); have HO4 := Lib.hid (own_row ho4); have HW4 := Lib.hid (HW3.out.below hb4); have HL4 := Lib.hid (own_len ho4); clear hb4 ho4)
                  | (go_at_call 25; with_reducible refine (HSH.out w4 v2 ps (a + -b) rfl hac HW4.out).mono ?_; rintro e w5 ⟨v5, rfl, hb5, ho5⟩; have HB5 := Lib.hid (bt HB4.out (Nat.le_refl _) hb5); have HO5 := Lib.hid (own_row ho5); have HW5 := Lib.hid (HW4.out.below hb5); have HY5 := Lib.hid (HO4.out.below hb5); clear hb5 ho5)
                  | (go_at_call 31; with_reducible refine (HDF.out w5 v4 v5 (shiftL ps (a + -b)) (HSL.out _ _) (htw ▸ HY5.out) HO5.out).mono ?_; rintro e w6 ⟨v6, rfl, hb6, ho6⟩; have HB6 := Lib.hid (bt HB5.out (Nat.le_refl _) hb6); have HO6 := Lib.hid ho6; have HW6 := Lib.hid (HW5.out.below hb6); clear hb6 ho6)
                  | (go_at_call 31; with_reducible refine (HDF.out w6 v2 v2 ps rfl HW6.out HW6.out).mono ?_; rintro e w7 ⟨v7, rfl, hb7, ho7⟩; have HB7 := Lib.hid (bt HB6.out (Nat.le_refl _) hb7); have HO7 := Lib.hid ho7; have HD7 := Lib.hid (HO6.out.below hb7); clear hb7 ho7)
                  | (go_at_call 27; with_reducible refine (HON.out w7 v6 _ (by rw [HPL.out _ (HSL.out _ _)]; exact HPK.out) HD7.out).mono ?_; rintro e w' ⟨rfl, rfl⟩)
                  | (go_at_call 27; with_reducible refine (HON.out w7 v7 _ HPK.out HO7.out).mono ?_; rintro e w' ⟨rfl, rfl⟩; obtain ⟨A2, c2, rfl⟩ := HL2.out; obtain ⟨A4, c4, h4⟩ := HL4.out; rw [HPL.out (shiftL (shiftL ps a) (-b)) (hss (-b))] at h4; subst h4))
                go_ret
                exact ⟨rfl, HB7.out⟩
              · by_cases t1 : a < 0
                · have q1 : decide (0 < b) = false := decide_eq_false (by omega)
                  have hc : -9223372036854775808 ≤ b ∧ b ≤ 9223372036854775807 := by omega
                  have hac : -9223372036854775808 ≤ a + b ∧ a + b ≤ 9223372036854775807 := by omega
                  have htw := HTW.out (b) (by omega)
                  clear HTW s1 s4
                  have hss : ∀ c, (shiftL (shiftL ps a) c).length = ps.length := fun c => by rw [HSL.out, HSL.out]
                  go_enter Try.func9, Try.ntmps9
                  go_wp2_with (first
                    | (go_at_call 18; refine (works_any _).mono ?_; rintro e w1 ⟨rfl, hb1⟩; have HB1 := Lib.hid hb1; clear hb1)
                    | (go_at_call 10; refine (hp _ (HR.out.below HB1.out)).mono ?_; rintro e w2 ⟨v2, rfl, hb2, ho2⟩; have HB2 := Lib.hid (bt HB1.out (Nat.le_refl _) hb2); have HO2 := Lib.hid (own_row ho2); have HL2 := Lib.hid (own_len ho2); clear hb2 ho2)
                    | (go_at_call 25; with_reducible refine (HSH.out w2 v2 ps a rfl ha HO2.out).mono ?_; rintro e w3 ⟨v3, rfl, hb3, ho3⟩; have HB3 := Lib.hid (bt HB2.out (Nat.le_refl _) hb3); have HO3 := Lib.hid (own_row ho3); have HW3 := Lib.hid (HO2.out.below hb3); clear hb3 ho3)
                    | (go_at_call 25; with_reducible refine (HSH.out w3 v3 (shiftL ps a) (b) (HSL.out _ _) hc HO3.out).mono ?_; rintro e w4 ⟨v4, rfl, hb4, ho4⟩; have HB4 := Lib.hid (bt HB3.out (Nat.le_refl _) hb4); have HO4 := Lib.hid (own_row ho4); have HW4 := Lib.hid (HW3.out.below hb4); have HL4 := Lib.hid (own_len ho4); clear hb4 ho4)
                    | (go_at_call 25; with_reducible refine (HSH.out w4 v2 ps (a + b) rfl hac HW4.out).mono ?_; rintro e w5 ⟨v5, rfl, hb5, ho5⟩; have HB5 := Lib.hid (bt HB4.out (Nat.le_refl _) hb5); have HO5 := Lib.hid (own_row ho5); have HW5 := Lib.hid (HW4.out.below hb5); have HY5 := Lib.hid (HO4.out.below hb5); clear hb5 ho5)
                    | (go_at_call 31; with_reducible refine (HDF.out w5 v4 v5 (shiftL ps (a + b)) (HSL.out _ _) (htw ▸ HY5.out) HO5.out).mono ?_; rintro e w6 ⟨v6, rfl, hb6, ho6⟩; have HB6 := Lib.hid (bt HB5.out (Nat.le_refl _) hb6); have HO6 := Lib.hid ho6; have HW6 := Lib.hid (HW5.out.below hb6); clear hb6 ho6)
                    | (go_at_call 31; with_reducible refine (HDF.out w6 v2 v2 ps rfl HW6.out HW6.out).mono ?_; rintro e w7 ⟨v7, rfl, hb7, ho7⟩; have HB7 := Lib.hid (bt HB6.out (Nat.le_refl _) hb7); have HO7 := Lib.hid ho7; have HD7 := Lib.hid (HO6.out.below hb7); clear hb7 ho7)
                    | (go_at_call 27; with_reducible refine (HON.out w7 v6 _ (by rw [HPL.out _ (HSL.out _ _)]; exact HPK.out) HD7.out).mono ?_; rintro e w' ⟨rfl, rfl⟩)
                    | (go_at_call 27; with_reducible refine (HON.out w7 v7 _ HPK.out HO7.out).mono ?_; rintro e w' ⟨rfl, rfl⟩; obtain ⟨A2, c2, rfl⟩ := HL2.out; obtain ⟨A4, c4, h4⟩ := HL4.out; rw [HPL.out (shiftL (shiftL ps a) (b)) (hss (b))] at h4; subst h4))
                  go_ret
                  exact ⟨rfl, HB7.out⟩
                · by_cases t2 : 0 < a
                  · have q1 : decide (b < 0) = false := decide_eq_false (by omega)
                    have hc : -9223372036854775808 ≤ b ∧ b ≤ 9223372036854775807 := by omega
                    have hac : -9223372036854775808 ≤ a + b ∧ a + b ≤ 9223372036854775807 := by omega
                    have htw := HTW.out (b) (by omega)
                    clear HTW s1 s4
                    have hss : ∀ c, (shiftL (shiftL ps a) c).length = ps.length := fun c => by rw [HSL.out, HSL.out]
                    go_enter Try.func9, Try.ntmps9
                    go_wp2_with (first
                      | (go_at_call 18; refine (works_any _).mono ?_; rintro e w1 ⟨rfl, hb1⟩; have HB1 := Lib.hid hb1; clear hb1)
                      | (go_at_call 10; refine (hp _ (HR.out.below HB1.out)).mono ?_; rintro e w2 ⟨v2, rfl, hb2, ho2⟩; have HB2 := Lib.hid (bt HB1.out (Nat.le_refl _) hb2); have HO2 := Lib.hid (own_row ho2); have HL2 := Lib.hid (own_len ho2); clear hb2 ho2)
                      | (go_at_call 25; with_reducible refine (HSH.out w2 v2 ps a rfl ha HO2.out).mono ?_; rintro e w3 ⟨v3, rfl, hb3, ho3⟩; have HB3 := Lib.hid (bt HB2.out (Nat.le_refl _) hb3); have HO3 := Lib.hid (own_row ho3); have HW3 := Lib.hid (HO2.out.below hb3); clear hb3 ho3)
                      | (go_at_call 25; with_reducible refine (HSH.out w3 v3 (shiftL ps a) (b) (HSL.out _ _) hc HO3.out).mono ?_; rintro e w4 ⟨v4, rfl, hb4, ho4⟩; have HB4 := Lib.hid (bt HB3.out (Nat.le_refl _) hb4); have HO4 := Lib.hid (own_row ho4); have HW4 := Lib.hid (HW3.out.below hb4); have HL4 := Lib.hid (own_len ho4); clear hb4 ho4)
                      | (go_at_call 25; with_reducible refine (HSH.out w4 v2 ps (a + b) rfl hac HW4.out).mono ?_; rintro e w5 ⟨v5, rfl, hb5, ho5⟩; have HB5 := Lib.hid (bt HB4.out (Nat.le_refl _) hb5); have HO5 := Lib.hid (own_row ho5); have HW5 := Lib.hid (HW4.out.below hb5); have HY5 := Lib.hid (HO4.out.below hb5); clear hb5 ho5)
                      | (go_at_call 31; with_reducible refine (HDF.out w5 v4 v5 (shiftL ps (a + b)) (HSL.out _ _) (htw ▸ HY5.out) HO5.out).mono ?_; rintro e w6 ⟨v6, rfl, hb6, ho6⟩; have HB6 := Lib.hid (bt HB5.out (Nat.le_refl _) hb6); have HO6 := Lib.hid ho6; have HW6 := Lib.hid (HW5.out.below hb6); clear hb6 ho6)
                      | (go_at_call 31; with_reducible refine (HDF.out w6 v2 v2 ps rfl HW6.out HW6.out).mono ?_; rintro e w7 ⟨v7, rfl, hb7, ho7⟩; have HB7 := Lib.hid (bt HB6.out (Nat.le_refl _) hb7); have HO7 := Lib.hid ho7; have HD7 := Lib.hid (HO6.out.below hb7); clear hb7 ho7)
                      | (go_at_call 27; with_reducible refine (HON.out w7 v6 _ (by rw [HPL.out _ (HSL.out _ _)]; exact HPK.out) HD7.out).mono ?_; rintro e w' ⟨rfl, rfl⟩)
                      | (go_at_call 27; with_reducible refine (HON.out w7 v7 _ HPK.out HO7.out).mono ?_; rintro e w' ⟨rfl, rfl⟩; obtain ⟨A2, c2, rfl⟩ := HL2.out; obtain ⟨A4, c4, h4⟩ := HL4.out; rw [HPL.out (shiftL (shiftL ps a) (b)) (hss (b))] at h4; subst h4))
                    go_ret
                    exact ⟨rfl, HB7.out⟩
                  · have q1 : decide (a < 0) = false := decide_eq_false (by omega)
                    have q2 : decide (0 < a) = false := decide_eq_false (by omega)
                    have hc : -9223372036854775808 ≤ b ∧ b ≤ 9223372036854775807 := by omega
                    have hac : -9223372036854775808 ≤ a + b ∧ a + b ≤ 9223372036854775807 := by omega
                    have htw := HTW.out (b) (by omega)
                    clear HTW s1 s4
                    have hss : ∀ c, (shiftL (shiftL ps a) c).length = ps.length := fun c => by rw [HSL.out, HSL.out]
                    go_enter Try.func9, Try.ntmps9
                    go_wp2_with (first
                      | (go_at_call 18; refine (works_any _).mono ?_; rintro e w1 ⟨rfl, hb1⟩; have HB1 := Lib.hid hb1; clear hb1)
                      | (go_at_call 10; refine (hp _ (HR.out.below HB1.out)).mono ?_; rintro e w2 ⟨v2, rfl, hb2, ho2⟩; have HB2 := Lib.hid (bt HB1.out (Nat.le_refl _) hb2); have HO2 := Lib.hid (own_row ho2); have HL2 := Lib.hid (own_len ho2); clear hb2 ho2)
                      | (go_at_call 25; with_reducible refine (HSH.out w2 v2 ps a rfl ha HO2.out).mono ?_; rintro e w3 ⟨v3, rfl, hb3, ho3⟩; have HB3 := Lib.hid (bt HB2.out (Nat.le_refl _) hb3); have HO3 := Lib.hid (own_row ho3); have HW3 := Lib.hid (HO2.out.below hb3); clear hb3 ho3)
                      | (go_at_call 25; with_reducible refine (HSH.out w3 v3 (shiftL ps a) (b) (HSL.out _ _) hc HO3.out).mono ?_; rintro e w4 ⟨v4, rfl, hb4, ho4⟩; have HB4 := Lib.hid (bt HB3.out (Nat.le_refl _) hb4); have HO4 := Lib.hid (own_row ho4); have HW4 := Lib.hid (HW3.out.below hb4); have HL4 := Lib.hid (own_len ho4); clear hb4 ho4)
                      | (go_at_call 25; with_reducible refine (HSH.out w4 v2 ps (a + b) rfl hac HW4.out).mono ?_; rintro e w5 ⟨v5, rfl, hb5, ho5⟩; have HB5 := Lib.hid (bt HB4.out (Nat.le_refl _) hb5); have HO5 := Lib.hid (own_row ho5); have HW5 := Lib.hid (HW4.out.below hb5); have HY5 := Lib.hid (HO4.out.below hb5); clear hb5 ho5)
                      | (go_at_call 31; with_reducible refine (HDF.out w5 v4 v5 (shiftL ps (a + b)) (HSL.out _ _) (htw ▸ HY5.out) HO5.out).mono ?_; rintro e w6 ⟨v6, rfl, hb6, ho6⟩; have HB6 := Lib.hid (bt HB5.out (Nat.le_refl _) hb6); have HO6 := Lib.hid ho6; have HW6 := Lib.hid (HW5.out.below hb6); clear hb6 ho6)
                      | (go_at_call 31; with_reducible refine (HDF.out w6 v2 v2 ps rfl HW6.out HW6.out).mono ?_; rintro e w7 ⟨v7, rfl, hb7, ho7⟩; have HB7 := Lib.hid (bt HB6.out (Nat.le_refl _) hb7); have HO7 := Lib.hid ho7; have HD7 := Lib.hid (HO6.out.below hb7); clear hb7 ho7)
                      | (go_at_call 27; with_reducible refine (HON.out w7 v6 _ (by rw [HPL.out _ (HSL.out _ _)]; exact HPK.out) HD7.out).mono ?_; rintro e w' ⟨rfl, rfl⟩)
                      | (go_at_call 27; with_reducible refine (HON.out w7 v7 _ HPK.out HO7.out).mono ?_; rintro e w' ⟨rfl, rfl⟩; obtain ⟨A2, c2, rfl⟩ := HL2.out; obtain ⟨A4, c4, h4⟩ := HL4.out; rw [HPL.out (shiftL (shiftL ps a) (b)) (hss (b))] at h4; subst h4))
                    go_ret
                    exact ⟨rfl, HB7.out⟩
end Go.Proofs.Ythchemgkfjmhjaa

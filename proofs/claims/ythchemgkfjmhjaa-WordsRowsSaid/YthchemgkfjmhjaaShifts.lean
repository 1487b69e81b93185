/- WordsShifts's walk: any words as a row, shifted by any number. -/
import Derived.Test.YthchemgkfjmhjaaTexts
import Derived.Test.YthchemgkfjmhjaaPairs
import Derived.Test.YthchemgkfjmhjaaRefSh
namespace Go.Proofs.Ythchemgkfjmhjaa
open Go.RowKit

/-- v is a list xs of the call's own, with y behind its end. -/
def LentRow (w : World) (B : Nat) (t : TypeId) (v : Value) (xs : List Value) (y : Value) : Prop :=
  ∃ g cap, v = .slice (some ⟨g, 0, none⟩) xs.length cap ∧ xs.length + 1 ≤ cap ∧ cap ≤ maxLen ∧ g < w.heap.size ∧ w.ownsRow B t 1 (.slice (some ⟨g, 0, none⟩) (xs.length + 1) cap) (xs.length + 1) (xs ++ [y])
theorem LentRow.below {w w' : World} {B : Nat} {t : TypeId} {v y : Value} {xs : List Value} (h : LentRow w B t v xs y) (hb : Below w.heap.size w w') : LentRow w' B t v xs y := by
  obtain ⟨g, cap, e, h1, h2, h3, h4⟩ := h
  exact ⟨g, cap, e, h1, h2, Nat.lt_of_lt_of_le h3 hb.size, own_keep h4 hb⟩
theorem LentRow.row {w : World} {B : Nat} {t : TypeId} {v y : Value} {xs : List Value} (h : LentRow w B t v xs y) : Row w v xs := by
  obtain ⟨g, cap, rfl, h1, h2, h3, h4⟩ := h
  refine ⟨_, cap, rfl, by omega, h2, fun i hi => ⟨g, 0, rfl, h3, ?_⟩⟩
  rw [Nat.zero_add, h4.cellAt i (by omega), List.getElem?_append_left hi]
theorem LentRow.mark {w : World} {B : Nat} {t : TypeId} {v y : Value} {xs : List Value} (h : LentRow w B t v xs y) : ∃ g cap, v = .slice (some ⟨g, 0, none⟩) xs.length cap ∧ xs.length + 1 ≤ cap ∧ cap ≤ maxLen ∧ w.cell? ⟨g, xs.length, none⟩ = some y := by
  obtain ⟨g, cap, rfl, h1, h2, h3, h4⟩ := h
  refine ⟨g, cap, rfl, h1, h2, ?_⟩
  rw [h4.cellAt xs.length (by omega), List.getElem?_append_right (Nat.le_refl _)]
  simp
theorem mark_at {w : World} {B g n cap : Nat} {t : TypeId} {y : Value} {xs : List Value} (h : LentRow w B t (.slice (some ⟨g, 0, none⟩) n cap) xs y) (hn : xs.length = n) : w.cell? ⟨g, n, none⟩ = some y := by
  subst hn
  obtain ⟨g', cap', e, _, _, hc⟩ := h.mark
  cases e
  exact hc
theorem lent_of {w : World} {B n : Nat} {t : TypeId} {v y : Value} {xs : List Value} (h : w.ownsRow B t 1 v (0 + n + 1) ([] ++ xs ++ [y])) (hn : xs.length = n) :
    ∃ g cap, v = .slice (some ⟨g, 0, none⟩) (n + 1) cap ∧ n + 1 ≤ cap ∧ cap ≤ maxLen ∧ LentRow w B t (.slice (some ⟨g, 0, none⟩) n cap) xs y := by
  subst hn
  rw [Nat.zero_add, List.nil_append] at h
  have h' := h
  rcases h.2 with ⟨_, h0⟩ | ⟨g, cap, cur, rfl, hb, hg, h1, h2, _⟩
  · omega
  · exact ⟨g, cap, rfl, h1, h2, g, cap, rfl, h1, h2, (Array.getElem?_eq_some_iff.1 hg).1, h'⟩

theorem unp_both (ws : List Nat) (n : Int) (hw : ∀ x ∈ ws, x < 2 ^ 64) (hl8 : ws.length * 8 ≤ 140737488351232) (hn : -9223372036854775808 ≤ n ∧ n ≤ 9223372036854775807) : ∃ r bs,
    (∀ w v, Row w v (wds ws) → Calls Try.prog 23 #[v, .int .i64 n] w (RowAns r bs w)) ∧ (∀ w v, Row w v (wds ws) → Calls Try.prog 24 #[v, .int .i64 n] w (RowAns r bs w)) := by
  have h2 := fun w v h => RUnpack_any w v ws n h hw hl8 hn
  by_cases hE : rowE ws n = 0
  · obtain ⟨m, rfl, _, _⟩ := rowE_zero hE
    refine ⟨0, rowL ws m, fun w v h => (Unpack_ok w v ws m h hw hE).mono ?_, fun w v h => (h2 w v h).mono ?_⟩
    · rintro e w' ⟨v', rfl, hb, ho⟩
      exact ⟨_, rfl, hb, own_row ho⟩
    · rw [hE]
      rintro e w' ⟨v', rfl, hb, ⟨_, ho⟩ | ⟨h, _⟩⟩
      · rw [Int.toNat_natCast] at ho
        exact ⟨_, rfl, hb, own_row ho⟩
      · exact absurd rfl h
  · refine ⟨rowE ws n, [], fun w v h => (Unpack_bad w v ws n h hw hE).mono ?_, fun w v h => (h2 w v h).mono ?_⟩
    · rintro e w' ⟨rfl, rfl⟩
      exact ⟨_, rfl, Below.refl _ _, Row_nil _⟩
    · rintro e w' ⟨v', rfl, hb, ⟨h, _⟩ | ⟨_, rfl⟩⟩
      · exact absurd h hE
      · exact ⟨_, rfl, hb, Row_nil _⟩
theorem sh_both (ws : List Nat) (n a : Int) (hw : ∀ x ∈ ws, x < 2 ^ 64) (hl8 : ws.length * 8 ≤ 140737488351232) (hn : -9223372036854775808 ≤ n ∧ n ≤ 9223372036854775807) (ha : -9223372036854775808 ≤ a ∧ a ≤ 9223372036854775807) : ∃ r zs, zs.length ≤ 16384 ∧
    (∀ w v, Row w v (wds ws) → Calls Try.prog 25 #[v, .int .i64 n, .int .i64 a] w (WordsAns r zs w)) ∧ (∀ w v, Row w v (wds ws) → Calls Try.prog 26 #[v, .int .i64 n, .int .i64 a] w (WordsAns r zs w)) := by
  have h2 := fun w v h => RShift_any w v ws n a h hw hl8 hn ha
  by_cases hE : rowE ws n = 0
  · obtain ⟨m, rfl, hm, _⟩ := rowE_zero hE
    refine ⟨0, packL (shiftL (rowL ws m) a), by rw [packL_len, shiftL_len, rowL_len]; omega, fun w v h => (Shift_ok w v ws m a h hw hE ha).mono ?_, fun w v h => (h2 w v h).mono ?_⟩
    · rintro e w' ⟨v', rfl, hb, ho⟩
      exact ⟨_, rfl, hb, ho⟩
    · rw [hE]
      rintro e w' ⟨v', rfl, hb, ⟨_, ho⟩ | ⟨h, _⟩⟩
      · rw [Int.toNat_natCast] at ho
        exact ⟨_, rfl, hb, ho⟩
      · exact absurd rfl h
  · refine ⟨rowE ws n, [], by simp, fun w v h => (Shift_bad w v ws n a h hw hE).mono ?_, fun w v h => (h2 w v h).mono ?_⟩
    · rintro e w' ⟨rfl, rfl⟩
      exact wordsAns_none _ _
    · rintro e w' ⟨v', rfl, hb, ⟨h, _⟩ | ⟨_, rfl⟩⟩
      · exact absurd h hE
      · exact ⟨_, rfl, hb, World.ownsRow_nil _ _ _ _⟩

set_option maxHeartbeats 4000000 in
set_option maxRecDepth 100000 in
theorem shifts_walk (w : World) (v : Value) (ws : List Nat) (n a : Int) (h : Row w v (wds ws)) (hw : ∀ x ∈ ws, x < 2 ^ 64) (hl8 : ws.length * 8 ≤ 140737488351232) (hn : -9223372036854775808 ≤ n ∧ n ≤ 9223372036854775807) (ha : -9223372036854775808 ≤ a ∧ a ≤ 9223372036854775807) :
    Calls Try.prog 5 #[v, .int .i64 n, .int .i64 a] w fun e w' => e = .returned (.bool true) ∧ Below w.heap.size w w' := by
  obtain ⟨i0, hi0, hz0, hz1, hz2⟩ := info_parts u64_info
  obtain ⟨r, bs, hu1, hu2⟩ := unp_both ws n hw hl8 hn
  obtain ⟨r2, zs, hzl, hs1, hs2⟩ := sh_both ws n a hw hl8 hn ha
  have ho1 := fun wx v h => Ones_any wx v ws h hw hl8
  have ho2 := fun wx v h => ROnes_any wx v ws h hw hl8
  have hsb := fun wx v u h h' => SameBools_any wx v u bs bs h h'
  have hsz := fun wx v u h h' => Same_any wx v u zs zs h h'
  have hsw := fun wx v u h h' => Same_any wx v u ws ws h h'
  rw [decide_eq_true rfl] at hsb hsz hsw
  have t1 : (r == r) = true := by simp
  have t2 : (r != r) = false := by simp
  have t3 : (r2 == r2) = true := by simp
  have t4 : (r2 != r2) = false := by simp
  have hpb : ((pops ws : Nat) : Int) ≤ 9007199254740992 := by have := pops_le hw; omega
  generalize pops ws = p at ho1 ho2 hpb
  have t5 : ((p : Int) == (p : Int)) = true := by simp
  have t6 : ((p : Int) != (p : Int)) = false := by simp
  obtain ⟨A, c, hve, hr⟩ := h.reads
  rw [List.length_map] at hr hve
  have H := Lib.hid h
  have HR := Lib.hid hr
  have hwl : (ws.length : Int) ≤ 17592186043904 := by omega
  have HLW := Lib.hid (show (wds ws).length = ws.length by simp)
  subst hve
  clear h hr hw
  go_enter Try.func5, Try.ntmps5
  go_wp2_with (first
    | (at_builtin; refine wpList_append_any _ rfl (.tmp 19) (.tmp 20) _ rfl w.heap.size 32 i0 _ 1 8 Try.underlying23 hi0 hz0 hz1 hz2 rfl (by omega) (.slice (some ⟨w.heap.size, 0, none⟩) 0 0) 0 [] rfl (World.ownsRow_made w #[] 0 (Nat.le_refl _) (by simp [maxLen]) rfl) w.heap.size A ws.length c (wds ws) rfl (HR.out.alloc (Nat.le_refl _) _) (wds_one ws) (by simp only [maxLen]; omega) (by omega) (by simp) ?_; intro v1 w1 hown1 hg1 hat1; have HB1 := Lib.hid (((Below.refl w.heap.size w).alloc (Nat.le_refl _) (.cells #[] 32)).grown hg1 (by simp) (by intro k hk; cases hk; exact Nat.le_refl _)); have HO1 := Lib.hid hown1; clear hown1 hg1 hat1)
    | (at_builtin; refine wpList_append_any _ rfl (.tmp 21) (.tmp 22) _ rfl w.heap.size 32 i0 _ 1 8 Try.underlying23 hi0 hz0 hz1 hz2 rfl (by omega) v1 (0 + ws.length) ([] ++ wds ws) rfl (HO1.out.alloc _) (w1.heap.size + 1) (some ⟨w1.heap.size, 0, none⟩) 1 1 [.int .u64 77] rfl (reads_one _ _ _) (by simp [Value.oneCell']) (by simp only [maxLen]; omega) (by omega) (Nat.le_trans HB1.out.size (by simp)) ?_; intro v2 w2 hown2 hg2 hat2; have hb12 := ((HB1.out.alloc HB1.out.size (.cells #[Value.int .u64 77] 32)).grown hg2 (Nat.le_trans HB1.out.size (by simp)) (fun k hk => (HO1.out.lt k hk).1)); have HB2 := Lib.hid hb12; obtain ⟨g2, cap2, rfl, hc2, hcm2, hlent⟩ := lent_of hown2 HLW.out; have HL2 := Lib.hid hlent; clear hown2 hg2 hat2 hb12 hlent)
    | (go_at_call 23; refine (hu1 w2 _ HL2.out.row).mono ?_; rintro e w3 ⟨v3, rfl, b3, r3⟩; have HC3 := Lib.hid b3; have HR3 := Lib.hid r3; clear b3 r3)
    | (go_at_call 24; refine (hu2 w3 _ (H.out.below (bt HB2.out (Nat.le_refl _) HC3.out))).mono ?_; rintro e w4 ⟨v4, rfl, b4, r4⟩; have HC4 := Lib.hid (bt HC3.out (Nat.le_refl _) b4); have HR34 := Lib.hid (HR3.out.below b4); have HR4 := Lib.hid r4; clear b4 r4)
    | (go_at_call 25; (with_reducible refine (hs1 w4 _ (HL2.out.below HC4.out).row).mono ?_); rintro e w5 ⟨v5, rfl, b5, o5⟩; have HC5 := Lib.hid (bt HC4.out (Nat.le_refl _) b5); have HR35 := Lib.hid (HR34.out.below b5); have HR45 := Lib.hid (HR4.out.below b5); have HO5 := Lib.hid o5; clear b5 o5)
    | (go_at_call 25; (with_reducible refine (hs1 w5 _ (HL2.out.below HC5.out).row).mono ?_); rintro e w6 ⟨v6, rfl, b6, o6⟩; have HC6 := Lib.hid (bt HC5.out (Nat.le_refl _) b6); have HR36 := Lib.hid (HR35.out.below b6); have HR46 := Lib.hid (HR45.out.below b6); have HO56 := Lib.hid (own_keep HO5.out b6); have HO6 := Lib.hid o6; have HN56 := Lib.hid (own_apart HO5.out o6 (Nat.le_refl _)); have HS56 := Lib.hid b6.size; clear b6 o6)
    | (go_at_call 26; refine (hs2 w6 _ (H.out.below (bt HB2.out (Nat.le_refl _) HC6.out))).mono ?_; rintro e w7 ⟨v7, rfl, b7, o7⟩; have HC7 := Lib.hid (bt HC6.out (Nat.le_refl _) b7); have HR37 := Lib.hid (HR36.out.below b7); have HR47 := Lib.hid (HR46.out.below b7); have HO57 := Lib.hid (own_keep HO56.out b7); have HO67 := Lib.hid (own_keep HO6.out b7); have HO7 := Lib.hid o7; have HN57 := Lib.hid (own_apart HO5.out o7 HS56.out); clear b7 o7)
    | (go_at_call 17; refine (hsb w7 v3 v4 HR37.out HR47.out).mono ?_; rintro e w8 ⟨rfl, b8⟩; have HC8 := Lib.hid (bt HC7.out (Nat.le_refl _) b8); have HO58 := Lib.hid (own_keep HO57.out b8); have HO68 := Lib.hid (own_keep HO67.out b8); have HO78 := Lib.hid (own_keep HO7.out b8); clear b8)
    | (go_at_call 16; with_reducible refine (hsz w8 v5 v7 (own_row HO58.out) (own_row HO78.out)).mono ?_; rintro e w9 ⟨rfl, b9⟩; have HC9 := Lib.hid (bt HC8.out (Nat.le_refl _) b9); have HO59 := Lib.hid (own_keep HO58.out b9); have HO69 := Lib.hid (own_keep HO68.out b9); have HO79 := Lib.hid (own_keep HO78.out b9); clear b9)
    | (go_at_call 27; refine (ho1 w9 _ (HL2.out.below HC9.out).row).mono ?_; rintro e w' ⟨rfl, rfl⟩; skip)
    | (go_at_call 28; refine (ho2 w9 _ (H.out.below (bt HB2.out (Nat.le_refl _) HC9.out))).mono ?_; rintro e w' ⟨rfl, rfl⟩; obtain ⟨A5, c5, rfl⟩ := own_len HO59.out))
  generalize zs.length = nn at HO59 HO69 HO79 hzl ⊢
  have hni : (nn : Int) ≤ 16384 := by omega
  go_loopw [18] (fun i wr => ∃ k : Nat, k ≤ nn ∧ i = .int .i64 k ∧ Below w2.heap.size w2 wr ∧ (∃ xs, wr.ownsRow w4.heap.size 32 1 (.slice A5 nn c5) nn xs) ∧ wr.ownsRow w5.heap.size 32 1 v6 nn (wds zs) ∧ wr.ownsRow w6.heap.size 32 1 v7 nn (wds zs)) (fun i _ => nn - (intOf i).toNat)
  case atStart => exact ⟨0, by omega, rfl, HC9.out, ⟨_, HO59.out⟩, HO69.out, HO79.out⟩
  case round =>
    obtain ⟨k, hk, rfl, hbw, ⟨xs, how5⟩, how6, how7⟩ := hrel
    have HBW := Lib.hid hbw
    by_cases hlt : k < nn
    · obtain ⟨g5, cap5, h5e, hB5⟩ := own_block how5 (by omega)
      cases h5e
      have hx5 : k < xs.length := by have := how5.1; omega
      have hc5 : wr.cell? ⟨g5, k, none⟩ = some xs[k] := by rw [how5.cellAt k (by omega), List.getElem?_eq_getElem hx5]
      have hf5 := how5.frozenAt k
      have HS5 := Lib.hid (how5.stored k (.int .u64 99)).1
      have HS6 := Lib.hid (own_far how6 ⟨g5, k, none⟩ (.int .u64 99) (fun g hg => Ne.symm (HN56.out g5 g rfl hg)))
      have HS7 := Lib.hid (own_far how7 ⟨g5, k, none⟩ (.int .u64 99) (fun g hg => Ne.symm (HN57.out g5 g rfl hg)))
      have hB5' : w2.heap.size ≤ g5 := Nat.le_trans HC4.out.size hB5
      generalize xs[k] = y5 at hc5
      clear how5 how6 how7 hbw hx5
      go_wp2
      go_roundw
      case rel => exact ⟨k + 1, by omega, by go_num, HBW.out.setCell hB5' _, ⟨_, HS5.out⟩, HS6.out, HS7.out⟩
      case measure => simp [intOf]; omega
    · have : k = nn := by omega
      subst this
      have HO6r := Lib.hid how6
      have HO7r := Lib.hid how7
      clear hbw how5 how6 how7
      go_wp2_with (first
        | (go_at_call 16; with_reducible refine (hsz wr v6 v7 (own_row HO6r.out) (own_row HO7r.out)).mono ?_; rintro e w10 ⟨rfl, b10⟩; have HB10 := Lib.hid (bt HBW.out (Nat.le_refl _) b10); clear b10)
        | (go_at_call 16; with_reducible refine (hsw w10 _ _ (HL2.out.below HB10.out).row (H.out.below (bt HB2.out (Nat.le_refl _) HB10.out))).mono ?_; rintro e w11 ⟨rfl, b11⟩; have HB11 := Lib.hid (bt HB10.out (Nat.le_refl _) b11); have hmk := mark_at (HL2.out.below HB11.out) HLW.out; clear b11)
        | (go_at_call 18; refine (works_any _).mono ?_; rintro e w12 ⟨rfl, b12⟩; have HB12 := Lib.hid (bt HB11.out (Nat.le_refl _) b12); clear b12))
      go_ret
      exact ⟨rfl, bt HB2.out (Nat.le_refl _) HB12.out⟩
end Go.Proofs.Ythchemgkfjmhjaa

/- WordsRows's walk: any row as words, as text, as a number. -/
import Derived.Test.YthchemgkfjmhjaaShifts
namespace Go.Proofs.Ythchemgkfjmhjaa
open Go.RowKit

theorem pack_both (bs : List Bool) : ∃ r zs, zs.length ≤ 16384 ∧ (∀ w v, Row w v (bls bs) → Calls Try.prog 10 #[v] w (WordsAns r zs w)) ∧ (∀ w v, Row w v (bls bs) → Calls Try.prog 11 #[v] w (WordsAns r zs w)) := by
  by_cases h : 16384 < bs.length
  · refine ⟨2, [], by simp, fun w v hr => (Pack_bad w v bs hr h).mono ?_, fun w v hr => (RPack_bad w v bs hr h).mono ?_⟩
    all_goals rintro e w' ⟨rfl, rfl⟩
    all_goals exact wordsAns_none _ _
  · refine ⟨0, packL bs, by rw [packL_len]; omega, fun w v hr => (Pack_ok w v bs hr (by omega)).mono ?_, fun w v hr => (RPack_ok w v bs hr (by omega)).mono ?_⟩
    all_goals rintro e w' ⟨v', rfl, hb, ho⟩
    all_goals exact ⟨_, rfl, hb, ho⟩
def TextAns (r : Int) (s : ByteArray) (w : World) (e : Ending) (w' : World) : Prop := e = .returned (.tuple #[.string s, .int .i64 r]) ∧ Below w.heap.size w w'
theorem text_both (bs : List Bool) : ∃ r s, (∀ w v, Row w v (bls bs) → Calls Try.prog 12 #[v] w (TextAns r s w)) ∧ (∀ w v, Row w v (bls bs) → Calls Try.prog 13 #[v] w (TextAns r s w)) := by
  by_cases h : 16384 < bs.length
  · refine ⟨2, strOf [], fun w v hr => (Text_bad w v bs hr h).mono ?_, fun w v hr => (RText_bad w v bs hr h).mono ?_⟩
    all_goals rintro e w' ⟨rfl, rfl⟩
    all_goals exact ⟨rfl, Below.refl _ _⟩
  · exact ⟨0, strOf (textL bs), fun w v hr => Text_ok w v bs hr (by omega), fun w v hr => RText_ok w v bs hr (by omega)⟩
def IdxAns (r x : Int) (w : World) (e : Ending) (w' : World) : Prop := e = .returned (.tuple #[.int .i64 x, .int .i64 r]) ∧ w = w'
theorem index_both (bs : List Bool) : ∃ r x, (∀ w v, Row w v (bls bs) → Calls Try.prog 14 #[v] w (IdxAns r x w)) ∧ (∀ w v, Row w v (bls bs) → Calls Try.prog 15 #[v] w (IdxAns r x w)) := by
  by_cases h : 62 < bs.length
  · exact ⟨2, 0, fun w v hr => Index_bad w v bs hr h, fun w v hr => RIndex_bad w v bs hr h⟩
  · exact ⟨0, _, fun w v hr => Index_ok w v bs hr (by omega), fun w v hr => RIndex_ok w v bs hr (by omega)⟩

set_option maxHeartbeats 4000000 in
set_option maxRecDepth 100000 in
theorem rows_walk (w : World) (v : Value) (bs : List Bool) (h : Row w v (bls bs)) (hl8 : bs.length * 1 ≤ 140737488351232) :
    Calls Try.prog 3 #[v] w fun e w' => e = .returned (.bool true) ∧ Below w.heap.size w w' := by
  obtain ⟨i0, hi0, hz0, hz1, hz2⟩ := info_parts bool_info
  obtain ⟨r, zs, hzl, hp1, hp2⟩ := pack_both bs
  obtain ⟨r2, s, ht1, ht2⟩ := text_both bs
  obtain ⟨r3, x, hx1, hx2⟩ := index_both bs
  have hsz := fun wx v u h h' => Same_any wx v u zs zs h h'
  have hsb := fun wx v u h h' => SameBools_any wx v u bs bs h h'
  rw [decide_eq_true rfl] at hsb hsz
  have t1 : (r == r) = true := by simp
  have t2 : (r != r) = false := by simp
  have t3 : (r2 == r2) = true := by simp
  have t4 : (r2 != r2) = false := by simp
  have t5 : (r3 == r3) = true := by simp
  have t6 : (r3 != r3) = false := by simp
  have t7 : (x == x) = true := by simp
  have t8 : (x != x) = false := by simp
  obtain ⟨A, c, hve, hr⟩ := h.reads
  rw [List.length_map] at hr hve
  have H := Lib.hid h
  have HR := Lib.hid hr
  have hwl : (bs.length : Int) ≤ 140737488351232 := by omega
  have HLW := Lib.hid (show (bls bs).length = bs.length by simp)
  subst hve
  clear h hr
  go_enter Try.func3, Try.ntmps3
  go_wp2_with (first
    | (at_builtin; refine wpList_append_any _ rfl (.tmp 19) (.tmp 20) _ rfl w.heap.size 4 i0 _ 1 1 Try.underlying22 hi0 hz0 hz1 hz2 rfl (by omega) (.slice (some ⟨w.heap.size, 0, none⟩) 0 0) 0 [] rfl (World.ownsRow_made w #[] 0 (Nat.le_refl _) (by simp [maxLen]) rfl) w.heap.size A bs.length c (bls bs) rfl (HR.out.alloc (Nat.le_refl _) _) (bls_one bs) (by simp only [maxLen]; omega) (by omega) (by simp) ?_; intro v1 w1 hown1 hg1 hat1; have HB1 := Lib.hid (((Below.refl w.heap.size w).alloc (Nat.le_refl _) (.cells #[] 4)).grown hg1 (by simp) (by intro k hk; cases hk; exact Nat.le_refl _)); have HO1 := Lib.hid hown1; clear hown1 hg1 hat1)
    | (at_builtin; refine wpList_append_any _ rfl (.tmp 21) (.tmp 22) _ rfl w.heap.size 4 i0 _ 1 1 Try.underlying22 hi0 hz0 hz1 hz2 rfl (by omega) v1 (0 + bs.length) ([] ++ bls bs) rfl (HO1.out.alloc _) (w1.heap.size + 1) (some ⟨w1.heap.size, 0, none⟩) 1 1 [.bool true] rfl (reads_one _ _ _) (by simp [Value.oneCell']) (by simp only [maxLen]; omega) (by omega) (Nat.le_trans HB1.out.size (by simp)) ?_; intro v2 w2 hown2 hg2 hat2; have hb12 := ((HB1.out.alloc HB1.out.size (.cells #[Value.bool true] 4)).grown hg2 (Nat.le_trans HB1.out.size (by simp)) (fun k hk => (HO1.out.lt k hk).1)); have HB2 := Lib.hid hb12; obtain ⟨g2, cap2, rfl, hc2, hcm2, hlent⟩ := lent_of hown2 HLW.out; have HL2 := Lib.hid hlent; clear hown2 hg2 hat2 hb12 hlent)
    | (go_at_call 10; (with_reducible refine (hp1 w2 _ HL2.out.row).mono ?_); rintro e w3 ⟨v3, rfl, b3, o3⟩; have HC3 := Lib.hid b3; have HO3 := Lib.hid o3; clear b3 o3)
    | (go_at_call 10; (with_reducible refine (hp1 w3 _ (HL2.out.below HC3.out).row).mono ?_); rintro e w4 ⟨v4, rfl, b4, o4⟩; have HC4 := Lib.hid (bt HC3.out (Nat.le_refl _) b4); have HO34 := Lib.hid (own_keep HO3.out b4); have HO4 := Lib.hid o4; have HN34 := Lib.hid (own_apart HO3.out o4 (Nat.le_refl _)); have HS34 := Lib.hid b4.size; clear b4 o4)
    | (go_at_call 11; refine (hp2 w4 _ (H.out.below (bt HB2.out (Nat.le_refl _) HC4.out))).mono ?_; rintro e w5 ⟨v5, rfl, b5, o5⟩; have HC5 := Lib.hid (bt HC4.out (Nat.le_refl _) b5); have HO35 := Lib.hid (own_keep HO34.out b5); have HO45 := Lib.hid (own_keep HO4.out b5); have HO5 := Lib.hid o5; have HN35 := Lib.hid (own_apart HO3.out o5 HS34.out); clear b5 o5)
    | (go_at_call 12; refine (ht1 w5 _ (HL2.out.below HC5.out).row).mono ?_; rintro e w6 ⟨rfl, b6⟩; have HC6 := Lib.hid (bt HC5.out (Nat.le_refl _) b6); have HO36 := Lib.hid (own_keep HO35.out b6); have HO46 := Lib.hid (own_keep HO45.out b6); have HO56 := Lib.hid (own_keep HO5.out b6); clear b6)
    | (go_at_call 13; refine (ht2 w6 _ (H.out.below (bt HB2.out (Nat.le_refl _) HC6.out))).mono ?_; rintro e w7 ⟨rfl, b7⟩; have HC7 := Lib.hid (bt HC6.out (Nat.le_refl _) b7); have HO37 := Lib.hid (own_keep HO36.out b7); have HO47 := Lib.hid (own_keep HO46.out b7); have HO57 := Lib.hid (own_keep HO56.out b7); clear b7)
    | (go_at_call 14; refine (hx1 w7 _ (HL2.out.below HC7.out).row).mono ?_; rintro e w' ⟨rfl, rfl⟩; skip)
    | (go_at_call 15; refine (hx2 w7 _ (H.out.below (bt HB2.out (Nat.le_refl _) HC7.out))).mono ?_; rintro e w' ⟨rfl, rfl⟩; skip)
    | (go_at_call 16; (with_reducible refine (hsz w7 v3 v5 (own_row HO37.out) (own_row HO57.out)).mono ?_); rintro e w8 ⟨rfl, b8⟩; have HC8 := Lib.hid (bt HC7.out (Nat.le_refl _) b8); have HO38 := Lib.hid (own_keep HO37.out b8); have HO48 := Lib.hid (own_keep HO47.out b8); have HO58 := Lib.hid (own_keep HO57.out b8); obtain ⟨A3, c3, rfl⟩ := own_len HO38.out; clear b8))
  generalize zs.length = nn at HO38 HO48 HO58 hzl ⊢
  have hni : (nn : Int) ≤ 16384 := by omega
  go_loopw [18] (fun i wr => ∃ k : Nat, k ≤ nn ∧ i = .int .i64 k ∧ Below w2.heap.size w2 wr ∧ (∃ xs, wr.ownsRow w2.heap.size 32 1 (.slice A3 nn c3) nn xs) ∧ wr.ownsRow w3.heap.size 32 1 v4 nn (wds zs) ∧ wr.ownsRow w4.heap.size 32 1 v5 nn (wds zs)) (fun i _ => nn - (intOf i).toNat)
  case atStart => exact ⟨0, by omega, rfl, HC8.out, ⟨_, HO38.out⟩, HO48.out, HO58.out⟩
  case round =>
    obtain ⟨k, hk, rfl, hbw, ⟨xs, how3⟩, how4, how5⟩ := hrel
    have HBW := Lib.hid hbw
    by_cases hlt : k < nn
    · obtain ⟨g3, cap3, h3e, hB3⟩ := own_block how3 (by omega)
      cases h3e
      have hx3 : k < xs.length := by have := how3.1; omega
      have hc3 : wr.cell? ⟨g3, k, none⟩ = some xs[k] := by rw [how3.cellAt k (by omega), List.getElem?_eq_getElem hx3]
      have hf3 := how3.frozenAt k
      have HS3 := Lib.hid (how3.stored k (.int .u64 77)).1
      have HS4 := Lib.hid (own_far how4 ⟨g3, k, none⟩ (.int .u64 77) (fun g hg => Ne.symm (HN34.out g3 g rfl hg)))
      have HS5 := Lib.hid (own_far how5 ⟨g3, k, none⟩ (.int .u64 77) (fun g hg => Ne.symm (HN35.out g3 g rfl hg)))
      generalize xs[k] = y3 at hc3
      clear how3 how4 how5 hbw hx3
      go_wp2
      go_roundw
      case rel => exact ⟨k + 1, by omega, by go_num, HBW.out.setCell hB3 _, ⟨_, HS3.out⟩, HS4.out, HS5.out⟩
      case measure => simp [intOf]; omega
    · have : k = nn := by omega
      subst this
      have HO4r := Lib.hid how4
      have HO5r := Lib.hid how5
      clear hbw how3 how4 how5
      go_wp2_with (first
        | (go_at_call 16; (with_reducible refine (hsz wr v4 v5 (own_row HO4r.out) (own_row HO5r.out)).mono ?_); rintro e w10 ⟨rfl, b10⟩; have HB10 := Lib.hid (bt HBW.out (Nat.le_refl _) b10); clear b10)
        | (go_at_call 17; (with_reducible refine (hsb w10 _ _ (HL2.out.below HB10.out).row (H.out.below (bt HB2.out (Nat.le_refl _) HB10.out))).mono ?_); rintro e w11 ⟨rfl, b11⟩; have HB11 := Lib.hid (bt HB10.out (Nat.le_refl _) b11); clear b11)
        | (go_at_call 18; refine (works_any _).mono ?_; rintro e w12 ⟨rfl, b12⟩; have HB12 := Lib.hid (bt HB11.out (Nat.le_refl _) b12); clear b12))
      go_ret
      exact ⟨rfl, bt HB2.out (Nat.le_refl _) HB12.out⟩
end Go.Proofs.Ythchemgkfjmhjaa

/- WordsPairs's walk: what is in both lists of words, what in just one. -/
import Derived.Test.YthchemgkfjmhjaaWorks2
import Derived.Test.YthchemgkfjmhjaaMix
import Derived.Test.YthchemgkfjmhjaaBits
namespace Go.Proofs.Ythchemgkfjmhjaa
open Go.RowKit

theorem Row.reads {w : World} {v : Value} {xs : List Value} (h : Row w v xs) : ∃ A c, v = .slice A xs.length c ∧ Reads w w.heap.size 1 A xs.length xs := by
  obtain ⟨A, c, rfl, _, _, hc⟩ := h
  refine ⟨A, c, rfl, by simp, fun hn => ?_⟩
  obtain ⟨b, off, rfl, hb, _⟩ := hc 0 hn
  refine ⟨_, rfl, hb, fun j u hu => ?_⟩
  obtain ⟨b', off', e, _, h2⟩ := hc j (List.getElem?_eq_some_iff.1 hu).1
  cases e
  rw [add_none, h2, hu]

theorem own_apart {wa wb : World} {B C n m : Nat} {t t' : TypeId} {v v' : Value} {xs ys : List Value} (h : wa.ownsRow B t 1 v n xs) (h' : wb.ownsRow C t' 1 v' m ys) (hc : wa.heap.size ≤ C) : ∀ g g', v.ownBlock = some g → v'.ownBlock = some g' → g ≠ g' := by
  intro g g' h1 h2
  have a := (h.lt g h1).2
  have b := (h'.lt g' h2).1
  omega
theorem own_zero {w : World} {B n : Nat} {t : TypeId} {v : Value} {xs : List Value} (h : w.ownsRow B t 1 v (0 + n) ([] ++ xs)) : w.ownsRow B t 1 v n xs := by
  rw [Nat.zero_add, List.nil_append] at h; exact h

/-- A call that answers words of its own and an error, always the same. -/
def WordsAns (r : Int) (zs : List Nat) (w : World) (e : Ending) (w' : World) : Prop := ∃ v', e = .returned (.tuple #[v', .int .i64 r]) ∧ Below w.heap.size w w' ∧ w'.ownsRow w.heap.size 32 1 v' zs.length (wds zs)
theorem wordsAns_none (w : World) (r : Int) : WordsAns r [] w (.returned (.tuple #[.slice none 0 0, .int .i64 r])) w := ⟨_, rfl, Below.refl _ _, World.ownsRow_nil _ _ _ _⟩
theorem wordsAns_some {w w' : World} {r : Int} {zs : List Nat} {n : Nat} {v' : Value} (hn : zs.length = n) (hb : Below w.heap.size w w') (ho : w'.ownsRow w.heap.size 32 1 v' n (wds zs)) : WordsAns r zs w (.returned (.tuple #[v', .int .i64 r])) w' := by subst hn; exact ⟨_, rfl, hb, ho⟩
theorem zipW_len (f : Nat → Nat → Nat) (ps qs : List Nat) : (zipW f ps qs).length = ps.length := by simp [zipW]

theorem pairs_both (ps qs : List Nat) (ha : ∀ x ∈ ps, x < 2 ^ 64) (hb : ∀ x ∈ qs, x < 2 ^ 64) : ∃ r zs ys, zs.length = ys.length ∧ zs.length ≤ 16384 ∧
    (∀ w v u, Row w v (wds ps) → Row w u (wds qs) → Calls Try.prog 29 #[v, u] w (WordsAns r zs w)) ∧ (∀ w v u, Row w v (wds ps) → Row w u (wds qs) → Calls Try.prog 30 #[v, u] w (WordsAns r zs w)) ∧
    (∀ w v u, Row w v (wds ps) → Row w u (wds qs) → Calls Try.prog 31 #[v, u] w (WordsAns r ys w)) ∧ (∀ w v u, Row w v (wds ps) → Row w u (wds qs) → Calls Try.prog 32 #[v, u] w (WordsAns r ys w)) := by
  by_cases hE : twoE ps qs = 0
  · have hl := (twoE_zero hE).1
    refine ⟨0, zipW (fun x y => x &&& y) ps qs, zipW (fun x y => x ^^^ y) ps qs, by rw [zipW_len, zipW_len], by rw [zipW_len]; exact hl, fun w v u h h' => (Meet_ok w v u ps qs h h' ha hb hE).mono ?_, fun w v u h h' => (RMeet_ok w v u ps qs h h' ha hb hE).mono ?_, fun w v u h h' => (Differ_ok w v u ps qs h h' ha hb hE).mono ?_, fun w v u h h' => (RDiffer_ok w v u ps qs h h' ha hb hE).mono ?_⟩
    all_goals rintro e w' ⟨v', rfl, hb', ho⟩
    all_goals exact wordsAns_some (zipW_len _ _ _) hb' ho
  · refine ⟨twoE ps qs, [], [], rfl, by simp, fun w v u h h' => (Meet_bad w v u ps qs h h' hE).mono ?_, fun w v u h h' => (RMeet_bad w v u ps qs h h' hE).mono ?_, fun w v u h h' => (Differ_bad w v u ps qs h h' hE).mono ?_, fun w v u h h' => (RDiffer_bad w v u ps qs h h' hE).mono ?_⟩
    all_goals rintro e w' ⟨rfl, rfl⟩
    all_goals exact wordsAns_none _ _

set_option maxHeartbeats 4000000 in
set_option maxRecDepth 100000 in
theorem pairs_walk (w : World) (v : Value) (ps : List Nat) (u : Value) (qs : List Nat) (h : Row w v (wds ps)) (ha : ∀ x ∈ ps, x < 2 ^ 64) (hp8 : ps.length * 8 ≤ 140737488351232) (h' : Row w u (wds qs)) (hb : ∀ x ∈ qs, x < 2 ^ 64) (hq8 : qs.length * 8 ≤ 140737488351232) :
    Calls Try.prog 6 #[v, u] w fun e w' => e = .returned (.bool true) ∧ Below w.heap.size w w' := by
  obtain ⟨i0, hi0, hz0, hz1, hz2⟩ := info_parts u64_info
  obtain ⟨r, zs, ys, hzy, hzl, hm1, hm2, hd1, hd2⟩ := pairs_both ps qs ha hb
  have hsz := fun wx v u h h' => Same_any wx v u zs zs h h'
  have hsy := fun wx v u h h' => Same_any wx v u ys ys h h'
  have hsp := fun wx v u h h' => Same_any wx v u ps ps h h'
  have hsq := fun wx v u h h' => Same_any wx v u qs qs h h'
  rw [decide_eq_true rfl] at hsz hsy hsp hsq
  have t1 : (r == r) = true := by simp
  have t2 : (r != r) = false := by simp
  obtain ⟨A, c, hve, hr⟩ := h.reads
  obtain ⟨A', c', hue, hr'⟩ := h'.reads
  rw [List.length_map] at hr hve hr' hue
  have H := Lib.hid h
  have H' := Lib.hid h'
  have HR := Lib.hid hr
  have HR' := Lib.hid hr'
  subst hve hue
  clear h h' hr hr' ha hb
  go_enter Try.func6, Try.ntmps6
  go_wp2_with (first
    | (at_builtin; refine wpList_append_any _ rfl (.tmp 16) (.tmp 17) _ rfl w.heap.size 32 i0 _ 1 8 Try.underlying23 hi0 hz0 hz1 hz2 rfl (by omega) (.slice (some ⟨w.heap.size, 0, none⟩) 0 0) 0 [] rfl (World.ownsRow_made w #[] 0 (Nat.le_refl _) (by simp [maxLen]) rfl) w.heap.size A ps.length c (wds ps) rfl (HR.out.alloc (Nat.le_refl _) _) (wds_one ps) (by simp only [maxLen]; omega) (by omega) (by simp) ?_; intro v1 w1 hown1 hg1 hat1; have HB1 := Lib.hid (((Below.refl w.heap.size w).alloc (Nat.le_refl _) (.cells #[] 32)).grown hg1 (by simp) (by intro k hk; cases hk; exact Nat.le_refl _)); have HO1 := Lib.hid hown1; clear hown1 hg1 hat1)
    | (at_builtin; refine wpList_append_any _ rfl (.tmp 19) (.tmp 20) _ rfl w1.heap.size 32 i0 _ 1 8 Try.underlying23 hi0 hz0 hz1 hz2 rfl (by omega) (.slice (some ⟨w1.heap.size, 0, none⟩) 0 0) 0 [] rfl (World.ownsRow_made w1 #[] 0 (Nat.le_refl _) (by simp [maxLen]) rfl) w.heap.size A' qs.length c' (wds qs) rfl ((HR'.out.below HB1.out).alloc HB1.out.size _) (wds_one qs) (by simp only [maxLen]; omega) (by omega) (by simp) ?_; intro v2 w2 hown2 hg2 hat2; have hb12 := ((Below.refl w1.heap.size w1).alloc (Nat.le_refl _) (.cells #[] 32)).grown hg2 (by simp) (by intro k hk; cases hk; exact Nat.le_refl _); have HB2 := Lib.hid (bt HB1.out (Nat.le_refl _) hb12); have HO2 := Lib.hid hown2; have HO12 := Lib.hid (own_keep HO1.out hb12); clear hown2 hg2 hat2 hb12)
    | (go_at_call 29; refine (hm1 w2 v1 v2 (own_row (own_zero HO12.out)) (own_row (own_zero HO2.out))).mono ?_; rintro e w3 ⟨v3, rfl, b3, o3⟩; have HB3 := Lib.hid b3; have HO3 := Lib.hid o3; clear b3 o3)
    | (go_at_call 30; refine (hm2 w3 _ _ (H.out.below (bt HB2.out (Nat.le_refl _) HB3.out)) (H'.out.below (bt HB2.out (Nat.le_refl _) HB3.out))).mono ?_; rintro e w4 ⟨v4, rfl, b4, o4⟩; have HB34 := Lib.hid b4; have HB4 := Lib.hid (bt HB3.out (Nat.le_refl _) b4); have HO34 := Lib.hid (own_keep HO3.out b4); have HO4 := Lib.hid o4; clear b4 o4)
    | (go_at_call 31; refine (hd1 w4 v1 v2 (own_row (own_keep (own_zero HO12.out) HB4.out)) (own_row (own_keep (own_zero HO2.out) HB4.out))).mono ?_; rintro e w5 ⟨v5, rfl, b5, o5⟩; have HB5 := Lib.hid (bt HB4.out (Nat.le_refl _) b5); have HO35 := Lib.hid (own_keep HO34.out b5); have HO45 := Lib.hid (own_keep HO4.out b5); have HO5 := Lib.hid o5; clear b5 o5)
    | (go_at_call 32; refine (hd2 w5 _ _ (H.out.below (bt HB2.out (Nat.le_refl _) HB5.out)) (H'.out.below (bt HB2.out (Nat.le_refl _) HB5.out))).mono ?_; rintro e w6 ⟨v6, rfl, b6, o6⟩; have HB6 := Lib.hid (bt HB5.out (Nat.le_refl _) b6); have HO36 := Lib.hid (own_keep HO35.out b6); have HO46 := Lib.hid (own_keep HO45.out b6); have HO56 := Lib.hid (own_keep HO5.out b6); have HO6 := Lib.hid o6; clear b6 o6)
    | (go_at_call 16; with_reducible refine (hsz w6 v3 v4 (own_row HO36.out) (own_row HO46.out)).mono ?_; rintro e w7 ⟨rfl, b7⟩; have HB7 := Lib.hid (bt HB6.out (Nat.le_refl _) b7); have HO37 := Lib.hid (own_keep HO36.out b7); have HO57 := Lib.hid (own_keep HO56.out b7); have HO67 := Lib.hid (own_keep HO6.out b7); clear b7)
    | (go_at_call 16; with_reducible refine (hsy w7 v5 v6 (own_row HO57.out) (own_row HO67.out)).mono ?_; rintro e w8 ⟨rfl, b8⟩; have HB8 := Lib.hid (bt HB7.out (Nat.le_refl _) b8); have HO38 := Lib.hid (own_keep HO37.out b8); have HO58 := Lib.hid (own_keep HO57.out b8); have HNE := Lib.hid (own_apart HO3.out HO5.out (HB34.out.size)); obtain ⟨A3, c3, rfl⟩ := own_len HO38.out; obtain ⟨A5, c5, rfl⟩ := own_len HO58.out; clear b8))
  have HZY := Lib.hid hzy
  rw [← hzy] at HO58 ⊢
  have hl3 := HO38.out.1
  generalize zs.length = n at HO38 HO58 hzl ⊢
  clear hzy HZY hl3
  have hni : (n : Int) ≤ 16384 := by omega
  go_loopw [15] (fun i wr => ∃ k : Nat, k ≤ n ∧ i = .int .i64 k ∧ Below w2.heap.size w2 wr ∧ (∃ xs, wr.ownsRow w2.heap.size 32 1 (.slice A3 n c3) n xs) ∧ ∃ xs, wr.ownsRow w4.heap.size 32 1 (.slice A5 n c5) n xs) (fun i _ => n - (intOf i).toNat)
  case atStart => exact ⟨0, by omega, rfl, HB8.out, ⟨_, HO38.out⟩, ⟨_, HO58.out⟩⟩
  case round =>
    obtain ⟨k, hk, rfl, hbw, ⟨xs, how3⟩, ⟨xs5, how5⟩⟩ := hrel
    have HBW := Lib.hid hbw
    by_cases hlt : k < n
    · obtain ⟨g3, cap3, h3e, hB3⟩ := own_block how3 (by omega)
      obtain ⟨g5, cap5, h5e, hB5⟩ := own_block how5 (by omega)
      cases h3e
      cases h5e
      have hne : g3 ≠ g5 := HNE.out g3 g5 rfl rfl
      have hx3 : k < xs.length := by have := how3.1; omega
      have hx5 : k < xs5.length := by have := how5.1; omega
      have hc3 : wr.cell? ⟨g3, k, none⟩ = some xs[k] := by rw [how3.cellAt k (by omega), List.getElem?_eq_getElem hx3]
      have hf3 := how3.frozenAt k
      have hst3 := (how3.stored k (.int .u64 77)).1
      have how5' := own_far how5 ⟨g3, k, none⟩ (.int .u64 77) (by rintro g hg; cases hg; exact Ne.symm hne)
      have hc5 : (wr.setCell ⟨g3, k, none⟩ (.int .u64 77)).cell? ⟨g5, k, none⟩ = some xs5[k] := by rw [how5'.cellAt k (by omega), List.getElem?_eq_getElem hx5]
      have hf5 := how5'.frozenAt k
      have hc50 : wr.cell? ⟨g5, k, none⟩ = some xs5[k] := by rw [how5.cellAt k (by omega), List.getElem?_eq_getElem hx5]
      have hf50 := how5.frozenAt k
      have hst5 := (how5'.stored k (.int .u64 78)).1
      have hst3' := own_far hst3 ⟨g5, k, none⟩ (.int .u64 78) (by rintro g hg; cases hg; exact hne)
      have hB5' : w2.heap.size ≤ g5 := Nat.le_trans HB4.out.size hB5
      have HS3 := Lib.hid hst3'
      have HS5 := Lib.hid hst5
      generalize xs[k] = y3 at hc3
      generalize xs5[k] = y5 at hc5 hc50
      clear how3 how5 how5' hst3 hst3' hst5 hbw hx3 hx5
      go_wp2
      go_roundw
      case rel => exact ⟨k + 1, by omega, by go_num, (HBW.out.setCell hB3 _).setCell hB5' _, ⟨_, HS3.out⟩, ⟨_, HS5.out⟩⟩
      case measure => simp [intOf]; omega
    · have : k = n := by omega
      subst this
      clear hbw how3 how5
      go_wp2_with (first
        | (go_at_call 16; with_reducible refine (hsp wr v1 _ (own_row (own_keep (own_zero HO12.out) HBW.out)) (H.out.below (bt HB2.out (Nat.le_refl _) HBW.out))).mono ?_; rintro e w9 ⟨rfl, b9⟩; have HB9 := Lib.hid (bt HBW.out (Nat.le_refl _) b9); clear b9)
        | (go_at_call 16; with_reducible refine (hsq w9 v2 _ (own_row (own_keep (own_zero HO2.out) HB9.out)) (H'.out.below (bt HB2.out (Nat.le_refl _) HB9.out))).mono ?_; rintro e w10 ⟨rfl, b10⟩; have HB10 := Lib.hid (bt HB9.out (Nat.le_refl _) b10); clear b10)
        | (go_at_call 18; refine (works_any _).mono ?_; rintro e w11 ⟨rfl, b11⟩; have HB11 := Lib.hid (bt HB10.out (Nat.le_refl _) b11); clear b11))
      go_ret
      exact ⟨rfl, bt HB2.out (Nat.le_refl _) HB11.out⟩
end Go.Proofs.Ythchemgkfjmhjaa

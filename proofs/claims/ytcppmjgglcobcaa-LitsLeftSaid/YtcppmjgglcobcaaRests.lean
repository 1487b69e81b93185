/- The document's Rest; and LitsRests: the walk of the statement's Go function, for any clause and any assignment. -/
import Derived.Test.YtcppmjgglcobcaaRest
import Derived.Test.YtcppmjgglcobcaaClauses
namespace Go.Proofs.Ytcppmjgglcobcaa
open Go.RowKit Go.Shelf Go.Lib Go.Sort

set_option maxHeartbeats 4000000 in
theorem RRest_any (w : World) (v u : Value) (zs us ns : List Int) (h : Ints w v zs) (h' : Ints w u us) (hns : restE zs us = 0 → NF zs ns) :
    Calls Try.prog 28 #[v, u] w (RestPost w zs us ns) := by
  have hc := Wrong_any w v zs h
  have hset := wrongly_any w u us h'
  have HI := Lib.hid h
  have HI' := Lib.hid h'
  have HNS := Lib.hid hns
  clear h h' hns
  by_cases hE : wrongE zs = 0
  · rw [hE] at hc
    have HE := Lib.hid hE
    obtain ⟨hzl, hzF⟩ := wrongE_zero hE
    have HZF := Lib.hid hzF
    clear hE hzF
    by_cases hA : asgE us = 0
    · rw [hA] at hset
      have HA := Lib.hid hA
      clear hA
      cases ht : taut zs
      · have HT := Lib.hid ht
        have HR0 := Lib.hid (restE_ok HE.out HA.out HT.out)
        have hnf := HNS.out HR0.out
        have HNF := Lib.hid hnf
        have hll : ns.length ≤ 16384 := Nat.le_trans hnf.length_le hzl
        obtain ⟨i0, hi0, hz0, hz1, hz2⟩ := info_parts int_info
        generalize hlen : ns.length = l at *
        have HL := Lib.hid hlen
        clear ht hnf hlen
        go_enter Try.func28, Try.ntmps28
        go_wp2_with (first
          | (go_at_call 45; refine hc.mono ?_; rintro e w' ⟨rfl, rfl⟩)
          | (go_at_call 52; refine hset.mono ?_; rintro e w1 ⟨rfl, hb1⟩; have HB1 := Lib.hid hb1; clear hb1)
          | (go_at_call 46; refine (nrm_exact (Form0_any w1 v zs (HI.out.below HB1.out) hzl HZF.out) HT.out HNF.out).mono ?_; rintro e w2 ⟨g2, c2, rfl, hb2, ho2⟩; rw [HL.out] at ho2 ⊢; have HB2 := Lib.hid hb2; have HO2 := Lib.hid ho2; clear hb2 ho2))
        have hb02 : Below w.heap.size w w2 := bt HB1.out (Nat.le_refl _) HB2.out
        have HB02 := Lib.hid hb02
        have HB3 : Hid (Below w2.heap.size w2 (w2.alloc (.cells #[] 3))) := (Below.refl _ _).alloc (Nat.le_refl _) _
        have HOO := Lib.hid (World.ownsRow_made (base := w2.heap.size) (e := 3) (size := 1) w2 #[] 0 (Nat.le_refl _) (by simp [maxLen]) rfl)
        clear hb02
        go_loopw [10, 11] (fun vo i wr => ∃ (k : Nat), k ≤ l ∧ i = .int .i64 k ∧ Below w2.heap.size w2 wr ∧ (∀ x ∈ ns.take k, x ∉ us) ∧ wr.ownsRow w2.heap.size 3 1 vo (leave (ns.take k) us).length (ints (leave (ns.take k) us))) (fun _ i _ => l - (intOf i).toNat)
        case atStart => exact ⟨0, Nat.zero_le _, rfl, HB3.out, by simp, by simpa [leave] using HOO.out⟩
        case round =>
          obtain ⟨k, hk, rfl, hbw, hno, how⟩ := hrel
          have HNO := Lib.hid hno
          have HOW := Lib.hid how
          clear hno how
          by_cases hlt : k < l
          · have hkl : k < ns.length := by rw [HL.out]; exact hlt
            have hcell := own_cell (own_below HO2.out hbw) k hkl
            have hms := take_mem_succ hkl
            have hxm := getD_mem hkl
            generalize hxe : ns.getD k 0 = x at hcell hms hxm
            have HXM := Lib.hid hxm
            have hFx := isF_yes (List.all_eq_true.1 HZF.out x ((HNF.out.2 x).1 hxm))
            obtain ⟨_, hf1, hf2⟩ := hFx
            have hiu : Ints wr u us := (((HI'.out.below HB1.out).below HB2.out).below hbw)
            have hhas1 := Has_any wr u us x hiu
            have hhas2 := Has_any wr u us (-x) hiu
            by_cases hin : x ∈ us
            · rw [decide_eq_true hin] at hhas1
              have HIN := Lib.hid hin
              have HIU := Lib.hid hiu
              clear hms hxm hin hkl hxe hhas2 hiu
              go_wp2_with (go_at_call 53; refine hhas1.mono ?_; rintro e w' ⟨rfl, rfl⟩)
              refine bodyPost_ret (v := .tuple #[.slice none 0 0, .bool true, .int .i64 0]) (by simp [results, Try.results28, go_sem]) rfl (rest_hit (bt HB02.out (Nat.le_refl _) hbw) HR0.out HXM.out HIN.out rfl)
            · rw [decide_eq_false hin] at hhas1
              have HNO' : Hid (∀ y ∈ ns.take (k + 1), y ∉ us) := fun y hy => by
                rcases (hms y).1 hy with h1 | h1
                · exact HNO.out y h1
                · subst h1; exact hin
              by_cases hneg : -x ∈ us
              · rw [decide_eq_true hneg] at hhas2
                have HLV := Lib.hid (leave_step_in hkl hxe hneg)
                clear hms hxm hin hneg hkl hxe hiu
                go_wp2_with (first | (go_at_call 53; with_reducible refine hhas1.mono ?_; rintro e w' ⟨rfl, rfl⟩) | (go_at_call 53; with_reducible refine hhas2.mono ?_; rintro e w' ⟨rfl, rfl⟩))
                go_roundw
                case rel => exact ⟨k + 1, by omega, by go_num, hbw, HNO'.out, by rw [HLV.out]; exact HOW.out⟩
                case measure => simp [intOf]; omega
              · rw [decide_eq_false hneg] at hhas2
                have HLV := Lib.hid (leave_step_out hkl hxe hneg)
                have hdl := leave_take_length ns us k
                rw [HL.out] at hdl
                clear hms hxm hin hneg hkl hxe hiu
                generalize leave (ns.take k) us = ds at HOW HLV hdl
                go_wp2_with (first
                  | (go_at_call 53; with_reducible refine hhas1.mono ?_; rintro e w' ⟨rfl, rfl⟩)
                  | (go_at_call 53; with_reducible refine hhas2.mono ?_; rintro e w' ⟨rfl, rfl⟩)
                  | (at_builtin; refine wpList_append_any _ rfl (.tmp 49) (.tmp 54) _ rfl w2.heap.size 3 i0 _ 1 8 Try.underlying28 hi0 hz0 hz1 hz2 rfl (by omega) u10 ds.length (ints ds) rfl (HOW.out.alloc _) (wr.heap.size + 1) (some ⟨wr.heap.size, 0, none⟩) 1 1 [.int .i64 x] rfl (reads_one _ _ _) (by simp [Value.oneCell']) (by simp only [maxLen]; omega) (by omega) (by have := hbw.size; simp; omega) ?_; intro v5 w5 hown5 hg5 hat5))
                go_roundw
                case rel =>
                  refine ⟨k + 1, by omega, by go_num, (hbw.alloc hbw.size _).grown hg5 (by have := hbw.size; simp; omega) (fun k hk => (HOW.out.lt k hk).1), HNO'.out, ?_⟩
                  rw [HLV.out]; simpa using hown5
                case measure => simp [intOf]; omega
          · have e : k = l := by omega
            subst e
            go_wp2
            have hno := HNO.out
            have how := HOW.out
            rw [List.take_of_length_le (by rw [HL.out]; exact Nat.le_refl _)] at hno how
            refine bodyPost_ret (v := .tuple #[u10, .bool false, .int .i64 0]) (by simp [results, Try.results28, go_sem]) rfl ⟨bt HB02.out (Nat.le_refl _) hbw, u10, _, false, by rw [HR0.out], own_mono how HB02.out.size, .inr (.inl ⟨HR0.out, hno, rfl, rfl⟩)⟩
      · have HT := Lib.hid ht
        have HR0 := Lib.hid (restE_t HE.out HA.out ht)
        clear ht
        go_enter Try.func28, Try.ntmps28
        go_wp2_with (first
          | (go_at_call 45; refine hc.mono ?_; rintro e w' ⟨rfl, rfl⟩)
          | (go_at_call 52; refine hset.mono ?_; rintro e w1 ⟨rfl, hb1⟩; have HB1 := Lib.hid hb1; clear hb1)
          | (go_at_call 46; refine (post_taut (Form0_any w1 v zs (HI.out.below HB1.out) hzl HZF.out) HT.out).mono ?_; rintro e w2 ⟨rfl, hb2⟩; have HB2 := Lib.hid hb2; clear hb2))
        refine bodyPost_ret (v := .tuple #[.slice none 0 0, .bool false, .int .i64 10]) (by simp [results, Try.results28, go_sem]) rfl (rest_bad (bt HB1.out (Nat.le_refl _) HB2.out) HR0.out (by decide) rfl)
    · have HR0 := Lib.hid (restE_a HE.out hA)
      have HA := Lib.hid hA
      have q1 : (asgE us != 0) = true := by simpa using hA
      have q2 : (asgE us == 0) = false := by simpa using hA
      generalize hx : asgE us = x at hset q1 q2
      have HX := Lib.hid hx
      clear hA hx
      go_enter Try.func28, Try.ntmps28
      go_wp2_with (first
        | (go_at_call 45; refine hc.mono ?_; rintro e w' ⟨rfl, rfl⟩)
        | (go_at_call 52; refine hset.mono ?_; rintro e w1 ⟨rfl, hb1⟩))
      refine bodyPost_ret (v := .tuple #[.slice none 0 0, .bool false, .int .i64 x]) (by simp [results, Try.results28, go_sem]) rfl (rest_bad hb1 (HR0.out.trans HX.out) (by rw [← HX.out]; exact HA.out) rfl)
  · have HR0 := Lib.hid (restE_w (us := us) hE)
    have HE := Lib.hid hE
    have q1 : (wrongE zs != 0) = true := by simpa using hE
    have q2 : (wrongE zs == 0) = false := by simpa using hE
    generalize hx : wrongE zs = x at hc q1 q2
    have HX := Lib.hid hx
    clear hE hx
    go_enter Try.func28, Try.ntmps28
    go_wp2_with (go_at_call 45; refine hc.mono ?_; rintro e w' ⟨rfl, rfl⟩)
    refine bodyPost_ret (v := .tuple #[.slice none 0 0, .bool false, .int .i64 x]) (by simp [results, Try.results28, go_sem]) rfl (rest_bad (Below.refl _ _) (HR0.out.trans HX.out) (by rw [← HX.out]; exact HE.out) rfl)

theorem rest_fix (zs us ns : List Int) : ∃ (ds : List Int) (ok : Bool), ∀ (F : Nat) (args : Array Value) (w : World), Calls Try.prog F args w (RestPost w zs us ns) →
    Calls Try.prog F args w fun e w' => ∃ v, e = .returned (.tuple #[v, .bool ok, .int .i64 (restE zs us)]) ∧ Below w.heap.size w w' ∧ w'.ownsRow w.heap.size 3 1 v ds.length (ints ds) := by
  by_cases hE : restE zs us = 0
  · by_cases hx : ∃ x ∈ ns, x ∈ us
    · refine ⟨[], true, fun F args w h => h.mono ?_⟩
      rintro e w' ⟨hb, v, ds, ok, rfl, ho, (⟨_, _, rfl, rfl⟩ | ⟨_, h1, _⟩ | ⟨h1, _⟩)⟩
      · exact ⟨v, rfl, hb, ho⟩
      · obtain ⟨x, h2, h3⟩ := hx; exact absurd h3 (h1 x h2)
      · exact absurd hE h1
    · refine ⟨leave ns us, false, fun F args w h => h.mono ?_⟩
      rintro e w' ⟨hb, v, ds, ok, rfl, ho, (⟨_, h1, _⟩ | ⟨_, _, rfl, rfl⟩ | ⟨h1, _⟩)⟩
      · exact absurd h1 hx
      · exact ⟨v, rfl, hb, ho⟩
      · exact absurd hE h1
  · refine ⟨[], false, fun F args w h => h.mono ?_⟩
    rintro e w' ⟨hb, v, ds, ok, rfl, ho, (⟨h1, _⟩ | ⟨h1, _⟩ | ⟨_, rfl, rfl⟩)⟩
    · exact absurd h1 hE
    · exact absurd h1 hE
    · exact ⟨v, rfl, hb, ho⟩

theorem rest_form (zs us : List Int) : ∃ ns, restE zs us = 0 → NF zs ns := by
  by_cases hE : restE zs us = 0
  · obtain ⟨h1, h2, h3⟩ := restE_zero hE
    obtain ⟨m, hm⟩ := nf_exists h1 h3
    exact ⟨m, fun _ => hm⟩
  · exact ⟨[], fun h => absurd h hE⟩

set_option maxHeartbeats 4000000 in
theorem rests_walk (w : World) (v u : Value) (a b : List Int) (h : Ints w v a) (h' : Ints w u b) (hz : a.length * 8 ≤ 140737488351232) (hz' : b.length * 8 ≤ 140737488351232) :
    Calls Try.prog 5 #[v, u] w fun e w' => e = .returned (.bool true) ∧ Below w.heap.size w w' := by
  have hlent := lent_any w v a h hz
  obtain ⟨ns, hmn⟩ := rest_form a b
  obtain ⟨ds, ok, hfix⟩ := rest_fix a b ns
  have HI := Lib.hid h
  have HI' := Lib.hid h'
  have HMN := Lib.hid hmn
  have HFIX := Lib.hid hfix
  have q3 : (ok != ok) = false := by simp
  have q4 : (ok == ok) = true := by simp
  generalize hE : restE a b = E at HFIX
  have q5 : (E != E) = false := by simp
  have q6 : (E == E) = true := by simp
  have hz2 := hz'
  clear h h' hmn hfix hz hE hz'
  go_enter Try.func5, Try.ntmps5
  go_wp2_with (first
    | (go_at_call 17; with_reducible refine hlent.mono ?_; rintro e w1 ⟨v1, rfl, hl1, hb1⟩; have HL1 := Lib.hid hl1; have HB1 := Lib.hid hb1; clear hl1 hb1)
    | (go_at_call 26; with_reducible refine (LendInts_any w1 u b (HI'.out.below HB1.out) hz2).mono ?_; rintro e w2 ⟨v2, rfl, hl2, hb2⟩; have HL2 := Lib.hid hl2; have HB2 := Lib.hid hb2; clear hl2 hb2)
    | (go_at_call 27; refine (HFIX.out _ _ _ (Rest_any w2 v1 v2 a b ns (HL1.out.below HB2.out).reads HL2.out.reads HMN.out)).mono ?_; rintro e w5 ⟨v5, rfl, hb5, ho5⟩; have HB5 := Lib.hid hb5; have HO5 := Lib.hid ho5; clear hb5 ho5)
    | (go_at_call 28; refine (HFIX.out _ _ _ (RRest_any w5 v u a b ns (((HI.out.below HB1.out).below HB2.out).below HB5.out) (((HI'.out.below HB1.out).below HB2.out).below HB5.out) HMN.out)).mono ?_; rintro e w6 ⟨v6, rfl, hb6, ho6⟩; have HB6 := Lib.hid hb6; have HO6 := Lib.hid ho6; clear hb6 ho6)
    | (go_at_call 22; refine (SameClause_eq w6 v5 v6 ds ds (own_ints (own_below HO5.out HB6.out)) (own_ints HO6.out) rfl).mono ?_; rintro e w7 ⟨rfl, hb7⟩; have HB7 := Lib.hid hb7; clear hb7)
    | (go_at_call 23; refine (SpoilInts_any w7 w2.heap.size ds.length v5 (ints ds) (-7) (own_below (own_below HO5.out HB6.out) HB7.out)).mono ?_; rintro e w8 ⟨rfl, hg8⟩; have HG8 := Lib.hid hg8; clear hg8; have hb47 : Below w2.heap.size w2 w7 := bt (bt HB5.out (Nat.le_refl _) HB6.out) (Nat.le_refl _) HB7.out; have HB48 : Hid (Below w2.heap.size w2 w8) := hb47.grown HG8.out hb47.size (fun k hk => (HO5.out.lt k hk).1); clear hb47)
    | (go_at_call 24; with_reducible refine (KeptInts_any w8 w.heap.size v1 v a ((HL1.out.below HB2.out).below HB48.out) (((HI.out.below HB1.out).below HB2.out).below HB48.out)).mono ?_; rintro e w9 ⟨rfl, hb9⟩; have HB9 := Lib.hid hb9; clear hb9)
    | (go_at_call 24; with_reducible refine (KeptInts_any w9 w1.heap.size v2 u b ((HL2.out.below HB48.out).below HB9.out) ((((HI'.out.below HB1.out).below HB2.out).below HB48.out).below HB9.out)).mono ?_; rintro e w10 ⟨rfl, hb10⟩; have HB10 := Lib.hid hb10; clear hb10)
    | (go_at_call 16; refine (works_any w10).mono ?_; rintro e w11 ⟨rfl, hb11⟩; have HB11 := Lib.hid hb11; clear hb11))
  go_ret
  exact ⟨rfl, bt (bt (bt (bt (bt HB1.out (Nat.le_refl _) HB2.out) (Nat.le_refl _) HB48.out) (Nat.le_refl _) HB9.out) (Nat.le_refl _) HB10.out) (Nat.le_refl _) HB11.out⟩
end Go.Proofs.Ytcppmjgglcobcaa

/- Rest, of the program and of the document: what is left of a clause by an assignment. -/
import Derived.Test.YtcppmjgglcobcaaSet2
namespace Go.Proofs.Ytcppmjgglcobcaa
open Go.RowKit Go.Shelf Go.Lib Go.Sort

theorem sgn_of_mem {us : List Int} {x : Int} {a : Nat} (ha : absI x = ((a + 1 : Nat) : Int)) (hnt : taut us = false) (hx : x ∈ us) : sgn us (a + 1) = sg x := by
  rcases abs_cases ha with ⟨hp, e⟩ | ⟨hp, e⟩
  · rw [sg_pos hp]; exact sgn_pos (by rw [← e]; exact hx)
  · rw [sg_neg hp]
    rw [e] at hx
    refine sgn_neg (fun h1 => ?_) hx
    exact taut_false.1 hnt _ h1 hx
theorem sgn_of_neg {us : List Int} {x : Int} {a : Nat} (ha : absI x = ((a + 1 : Nat) : Int)) (hnt : taut us = false) (hx : -x ∈ us) : sgn us (a + 1) = -sg x := by
  rcases abs_cases ha with ⟨hp, e⟩ | ⟨hp, e⟩
  · rw [sg_pos hp]
    rw [e] at hx
    exact sgn_neg (fun h1 => taut_false.1 hnt _ h1 hx) hx
  · rw [sg_neg hp]
    rw [e, Int.neg_neg] at hx
    exact sgn_pos hx
theorem sgn_of_none {us : List Int} {x : Int} {a : Nat} (ha : absI x = ((a + 1 : Nat) : Int)) (h1 : x ∉ us) (h2 : -x ∉ us) : sgn us (a + 1) = 0 := by
  rcases abs_cases ha with ⟨hp, e⟩ | ⟨hp, e⟩
  · exact sgn_zero (by rw [← e]; exact h1) (by rw [← e]; exact h2)
  · rw [e] at h1; rw [e, Int.neg_neg] at h2
    exact sgn_zero h2 h1

theorem signOf_any (w : World) (g G a : Nat) (us : List Int) (x : Int) (h : Signs w g G us) (hG : G ≤ 262144) (hx1 : -262144 ≤ x) (hx2 : x ≤ 262144) (ha : absI x = ((a + 1 : Nat) : Int)) :
    Calls Try.prog 51 #[.int .i64 x, .slice (some ⟨g, 0, none⟩) (G + 1) (G + 1)] w fun e w' => e = .returned (.int .i8 (sgn us (a + 1))) ∧ w = w' := by
  have hv := fun w => variable_any x w hx1 hx2
  rw [ha] at hv
  by_cases hag : a + 1 ≤ G
  · have hc := (h.2.1 (a + 1) hag).1
    generalize sgn us (a + 1) = s at hc ⊢
    have h2 : ¬ G + 1 ≤ a + 1 := by omega
    clear h ha
    go_enter Try.func51, Try.ntmps51
    go_wp2_with (go_at_call 39; refine (hv _).mono ?_; rintro e w' ⟨rfl, rfl⟩)
    go_ret
    exact ⟨rfl, rfl⟩
  · have hs : sgn us (a + 1) = 0 := by
      refine sgn_of_none ha (fun h1 => ?_) (fun h1 => ?_)
      · have := h.2.2 x h1; omega
      · have := h.2.2 _ h1; rw [absI_neg_eq] at this; omega
    rw [hs]
    have h2 : G + 1 ≤ a + 1 := by omega
    clear h ha hs
    go_enter Try.func51, Try.ntmps51
    go_wp2_with (go_at_call 39; refine (hv _).mono ?_; rintro e w' ⟨rfl, rfl⟩)
    go_ret
    exact ⟨rfl, rfl⟩

def restE (zs us : List Int) : Int := if wrongE zs ≠ 0 then wrongE zs else if asgE us ≠ 0 then asgE us else if taut zs = true then 10 else 0
theorem restE_w {zs us : List Int} (h : wrongE zs ≠ 0) : restE zs us = wrongE zs := if_pos h
theorem restE_a {zs us : List Int} (h : wrongE zs = 0) (h' : asgE us ≠ 0) : restE zs us = asgE us := by unfold restE; rw [if_neg (by simp [h]), if_pos h']
theorem restE_t {zs us : List Int} (h : wrongE zs = 0) (h' : asgE us = 0) (ht : taut zs = true) : restE zs us = 10 := by unfold restE; rw [if_neg (by simp [h]), if_neg (by simp [h']), if_pos ht]
theorem restE_ok {zs us : List Int} (h : wrongE zs = 0) (h' : asgE us = 0) (ht : taut zs = false) : restE zs us = 0 := by unfold restE; rw [if_neg (by simp [h]), if_neg (by simp [h']), if_neg (by simp [ht])]
theorem restE_zero {zs us : List Int} (h : restE zs us = 0) : wrongE zs = 0 ∧ asgE us = 0 ∧ taut zs = false := by
  by_cases h1 : wrongE zs = 0
  · by_cases h2 : asgE us = 0
    · cases ht : taut zs
      · exact ⟨h1, h2, rfl⟩
      · rw [restE_t h1 h2 ht] at h; cases h
    · rw [restE_a h1 h2] at h; exact absurd h h2
  · rw [restE_w h1] at h; exact absurd h h1

/-- What is left: the literals that are not false. -/
def leave (ns us : List Int) : List Int := ns.filter (fun x => !decide (-x ∈ us))
theorem leave_step_in {ns us : List Int} {k : Nat} {x : Int} (hk : k < ns.length) (hx : ns.getD k 0 = x) (h : -x ∈ us) : leave (ns.take (k + 1)) us = leave (ns.take k) us := by
  have := filter_take_succ (p := fun x => !decide (-x ∈ us)) hk hx
  unfold leave
  simpa [h] using this
theorem leave_step_out {ns us : List Int} {k : Nat} {x : Int} (hk : k < ns.length) (hx : ns.getD k 0 = x) (h : -x ∉ us) : leave (ns.take (k + 1)) us = leave (ns.take k) us ++ [x] := by
  have := filter_take_succ (p := fun x => !decide (-x ∈ us)) hk hx
  unfold leave
  simpa [h] using this
theorem leave_take_length (ns us : List Int) (k : Nat) : (leave (ns.take k) us).length ≤ ns.length := by
  have h1 : (leave (ns.take k) us).length ≤ (ns.take k).length := List.length_filter_le _ _
  have h2 := List.length_take_le' k ns
  omega

def RestPost (w : World) (zs us ns : List Int) (e : Ending) (w' : World) : Prop :=
  Below w.heap.size w w' ∧ ∃ v ds ok, e = .returned (.tuple #[v, .bool ok, .int .i64 (restE zs us)]) ∧ w'.ownsRow w.heap.size 3 1 v ds.length (ints ds) ∧
    ((restE zs us = 0 ∧ (∃ x ∈ ns, x ∈ us) ∧ ok = true ∧ ds = []) ∨ (restE zs us = 0 ∧ (∀ x ∈ ns, x ∉ us) ∧ ok = false ∧ ds = leave ns us) ∨ (restE zs us ≠ 0 ∧ ok = false ∧ ds = []))

theorem rest_bad {w w' : World} {zs us ns : List Int} {E : Int} (hb : Below w.heap.size w w') (hE : restE zs us = E) (h0 : E ≠ 0) {e : Ending} (he : e = .returned (.tuple #[.slice none 0 0, .bool false, .int .i64 E])) : RestPost w zs us ns e w' :=
  ⟨hb, .slice none 0 0, [], false, by rw [hE]; exact he, World.ownsRow_nil _ _ _ _, .inr (.inr ⟨by rw [hE]; exact h0, rfl, rfl⟩)⟩
theorem rest_hit {w w' : World} {zs us ns : List Int} {x : Int} (hb : Below w.heap.size w w') (hE : restE zs us = 0) (hx : x ∈ ns) (hu : x ∈ us) {e : Ending} (he : e = .returned (.tuple #[.slice none 0 0, .bool true, .int .i64 0])) : RestPost w zs us ns e w' :=
  ⟨hb, .slice none 0 0, [], true, by rw [hE]; exact he, World.ownsRow_nil _ _ _ _, .inl ⟨hE, ⟨x, hx, hu⟩, rfl, rfl⟩⟩

theorem settle_good {w : World} {v : Value} {us : List Int} (h : Ints w v us) (hE : asgE us = 0) : Calls Try.prog 50 #[v] w fun e w' => ∃ g G, e = .returned (.tuple #[.slice (some ⟨g, 0, none⟩) (G + 1) (G + 1), .int .i64 0]) ∧ Below w.heap.size w w' ∧ G ≤ 262144 ∧ Signs w' g G us := by
  refine (settle_any w v us h).mono ?_
  rintro e w' ⟨hb, (⟨h1, _⟩ | ⟨_, g, G, rfl, hG, hs⟩)⟩
  · exact absurd hE h1
  · exact ⟨g, G, rfl, hb, hG, hs⟩
theorem settle_bad {w : World} {v : Value} {us : List Int} (h : Ints w v us) (hE : asgE us ≠ 0) : Calls Try.prog 50 #[v] w fun e w' => e = .returned (.tuple #[.slice none 0 0, .int .i64 (asgE us)]) ∧ Below w.heap.size w w' := by
  refine (settle_any w v us h).mono ?_
  rintro e w' ⟨hb, (⟨_, rfl⟩ | ⟨h1, _⟩)⟩
  · exact ⟨rfl, hb⟩
  · exact absurd h1 hE

theorem nrm_exact {w : World} {zs ns : List Int} {F : Nat} {args : Array Value} (hc : Calls Try.prog F args w (NormalPost w zs)) (ht : taut zs = false) (hnf : NF zs ns) :
    Calls Try.prog F args w fun e w' => ∃ g cap, e = .returned (.tuple #[.slice (some ⟨g, 0, none⟩) ns.length cap, .bool true]) ∧ Below w.heap.size w w' ∧ w'.ownsRow w.heap.size 3 1 (.slice (some ⟨g, 0, none⟩) ns.length cap) ns.length (ints ns) := by
  refine (post_nf hc ht).mono ?_
  rintro e w' ⟨ns', v', rfl, hb, hn, g, cap, rfl, ho⟩
  obtain rfl := hn.unique hnf
  exact ⟨g, cap, rfl, hb, ho⟩

set_option maxHeartbeats 4000000 in
theorem Rest_any (w : World) (v u : Value) (zs us ns : List Int) (h : Ints w v zs) (h' : Ints w u us) (hns : restE zs us = 0 → NF zs ns) :
    Calls Try.prog 27 #[v, u] w (RestPost w zs us ns) := by
  have hc := check_any w v zs h
  have HI := Lib.hid h
  have HI' := Lib.hid h'
  have HNS := Lib.hid hns
  clear h h' hns
  by_cases hE : wrongE zs = 0
  · rw [hE] at hc
    have HE := Lib.hid hE
    obtain ⟨hzl, hzF⟩ := wrongE_zero hE
    have HZF := Lib.hid hzF
    clear hE hzF
    by_cases hA : asgE us = 0
    · have hset := settle_good HI'.out hA
      have HA := Lib.hid hA
      clear hA
      cases ht : taut zs
      · have HT := Lib.hid ht
        have HR0 := Lib.hid (restE_ok HE.out HA.out HT.out)
        have hnf := HNS.out HR0.out
        have HNF := Lib.hid hnf
        have hll : ns.length ≤ 16384 := Nat.le_trans hnf.length_le hzl
        obtain ⟨i0, hi0, hz0, hz1, hz2⟩ := info_parts int_info
        generalize hlen : ns.length = l at *
        have HL := Lib.hid hlen
        clear ht hnf hlen
        go_enter Try.func27, Try.ntmps27
        go_wp2_with (first
          | (go_at_call 43; refine hc.mono ?_; rintro e w' ⟨rfl, rfl⟩)
          | (go_at_call 50; refine hset.mono ?_; rintro e w1 ⟨g1, G, rfl, hb1, hG, hs1⟩; have HB1 := Lib.hid hb1; have HS1 := Lib.hid hs1; clear hb1 hs1)
          | (go_at_call 44; refine (nrm_exact (normal_any w1 v zs (HI.out.below HB1.out) hzl HZF.out) HT.out HNF.out).mono ?_; rintro e w2 ⟨g2, c2, rfl, hb2, ho2⟩; rw [HL.out] at ho2 ⊢; have HB2 := Lib.hid hb2; have HO2 := Lib.hid ho2; clear hb2 ho2))
        have hb02 : Below w.heap.size w w2 := bt HB1.out (Nat.le_refl _) HB2.out
        have HB02 := Lib.hid hb02
        have HB0 : Hid (Below w.heap.size w (w2.alloc (.cells #[] 3))) := hb02.alloc hb02.size _
        have HB3 : Hid (Below w2.heap.size w2 (w2.alloc (.cells #[] 3))) := (Below.refl _ _).alloc (Nat.le_refl _) _
        have HOO := Lib.hid (World.ownsRow_made (base := w2.heap.size) (e := 3) (size := 1) w2 #[] 0 (Nat.le_refl _) (by simp [maxLen]) rfl)
        clear hb02
        go_loopw [12, 39] (fun vo i wr => ∃ (k : Nat), k ≤ l ∧ i = .int .i64 k ∧ Below w2.heap.size w2 wr ∧ (∀ x ∈ ns.take k, x ∉ us) ∧ wr.ownsRow w2.heap.size 3 1 vo (leave (ns.take k) us).length (ints (leave (ns.take k) us))) (fun _ i _ => l - (intOf i).toNat)
        case atStart => exact ⟨0, Nat.zero_le _, rfl, HB3.out, by simp, by simpa [leave] using HOO.out⟩
        case round =>
          obtain ⟨k, hk, rfl, hbw, hno, how⟩ := hrel
          have HNO := Lib.hid hno
          have HOW := Lib.hid how
          clear hno how
          by_cases hlt : k < l
          · have hkl : k < ns.length := by rw [HL.out]; exact hlt
            have hcell := own_cell (own_below HO2.out hbw) k hkl
            have hms := take_mem_succ hkl
            have hxm := getD_mem hkl
            generalize hxe : ns.getD k 0 = x at hcell hms hxm
            have HMS := Lib.hid hms
            have HXM := Lib.hid hxm
            have hFx := isF_yes (List.all_eq_true.1 HZF.out x ((HNF.out.2 x).1 hxm))
            have ha1 : 1 ≤ absI x := by unfold absI; omega
            obtain ⟨a, ha⟩ : ∃ a : Nat, absI x = ((a + 1 : Nat) : Int) := ⟨(absI x - 1).toNat, by omega⟩
            have hsig := signOf_any wr g1 G a us x ((HS1.out.below HB2.out).below hbw) hG hFx.2.1 hFx.2.2 ha
            have hut := (asgE_zero HA.out).2.2
            by_cases hin : x ∈ us
            · rw [sgn_of_mem ha hut hin] at hsig
              have HIN := Lib.hid hin
              clear hms hxm hFx ha1 ha hut hin hkl hxe
              by_cases hp : 0 < x
              · rw [sg_pos hp] at hsig
                go_wp2_with (go_at_call 51; refine hsig.mono ?_; rintro e w' ⟨rfl, rfl⟩)
                refine bodyPost_ret (v := .tuple #[.slice none 0 0, .bool true, .int .i64 0]) (by simp [results, Try.results27, go_sem]) rfl (rest_hit (bt HB02.out (Nat.le_refl _) hbw) HR0.out HXM.out HIN.out rfl)
              · rw [sg_neg hp] at hsig
                have hpb : decide (0 < x) = false := by simpa using hp
                clear hp
                go_wp2_with (go_at_call 51; refine hsig.mono ?_; rintro e w' ⟨rfl, rfl⟩)
                refine bodyPost_ret (v := .tuple #[.slice none 0 0, .bool true, .int .i64 0]) (by simp [results, Try.results27, go_sem]) rfl (rest_hit (bt HB02.out (Nat.le_refl _) hbw) HR0.out HXM.out HIN.out rfl)
            · have HIN := Lib.hid hin
              have HNO' : Hid (∀ y ∈ ns.take (k + 1), y ∉ us) := fun y hy => by
                rcases (hms y).1 hy with h1 | h1
                · exact HNO.out y h1
                · subst h1; exact hin
              by_cases hneg : -x ∈ us
              · rw [sgn_of_neg ha hut hneg] at hsig
                have HLV := Lib.hid (leave_step_in hkl hxe hneg)
                clear hms hxm hFx ha1 ha hut hin hneg hkl hxe
                by_cases hp : 0 < x
                · rw [sg_pos hp] at hsig
                  go_wp2_with (go_at_call 51; refine hsig.mono ?_; rintro e w' ⟨rfl, rfl⟩)
                  go_roundw
                  case rel => exact ⟨k + 1, by omega, by go_num, hbw, HNO'.out, by rw [HLV.out]; exact HOW.out⟩
                  case measure => simp [intOf]; omega
                · rw [sg_neg hp] at hsig
                  have hpb : decide (0 < x) = false := by simpa using hp
                  clear hp
                  go_wp2_with (go_at_call 51; refine hsig.mono ?_; rintro e w' ⟨rfl, rfl⟩)
                  go_roundw
                  case rel => exact ⟨k + 1, by omega, by go_num, hbw, HNO'.out, by rw [HLV.out]; exact HOW.out⟩
                  case measure => simp [intOf]; omega
              · rw [sgn_of_none ha hin hneg] at hsig
                have HLV := Lib.hid (leave_step_out hkl hxe hneg)
                have hdl := leave_take_length ns us k
                rw [HL.out] at hdl
                clear hms hxm hFx ha1 ha hut hin hneg hkl hxe
                generalize leave (ns.take k) us = ds at HOW HLV hdl
                go_wp2_with (first
                  | (go_at_call 51; refine hsig.mono ?_; rintro e w' ⟨rfl, rfl⟩)
                  | (at_builtin; refine wpList_append_any _ rfl (.tmp 48) (.tmp 50) _ rfl w2.heap.size 3 i0 _ 1 8 Try.underlying28 hi0 hz0 hz1 hz2 rfl (by omega) u12 ds.length (ints ds) rfl (HOW.out.alloc _) (wr.heap.size + 1) (some ⟨wr.heap.size, 0, none⟩) 1 1 [.int .i64 x] rfl (reads_one _ _ _) (by simp [Value.oneCell']) (by simp only [maxLen]; omega) (by omega) (by have := hbw.size; simp; omega) ?_; intro v5 w5 hown5 hg5 hat5))
                go_roundw
                case rel =>
                  refine ⟨k + 1, by omega, by go_num, (hbw.alloc hbw.size _).grown hg5 (by have := hbw.size; simp; omega) (fun k hk => (HOW.out.lt k hk).1), HNO'.out, ?_⟩
                  rw [HLV.out]; simpa using hown5
                case measure => simp [intOf]; omega
          · have e : k = l := by omega
            subst e
            go_wp2
            have hno := HNO.out
            have how := HOW.out
            rw [List.take_of_length_le (by rw [HL.out]; exact Nat.le_refl _)] at hno how
            refine bodyPost_ret (v := .tuple #[u12, .bool false, .int .i64 0]) (by simp [results, Try.results27, go_sem]) rfl ⟨bt HB02.out (Nat.le_refl _) hbw, u12, _, false, by rw [HR0.out], own_mono how HB02.out.size, .inr (.inl ⟨HR0.out, hno, rfl, rfl⟩)⟩
      · have HT := Lib.hid ht
        have HR0 := Lib.hid (restE_t HE.out HA.out ht)
        clear ht
        go_enter Try.func27, Try.ntmps27
        go_wp2_with (first
          | (go_at_call 43; refine hc.mono ?_; rintro e w' ⟨rfl, rfl⟩)
          | (go_at_call 50; refine hset.mono ?_; rintro e w1 ⟨g1, G, rfl, hb1, hG, hs1⟩; have HB1 := Lib.hid hb1; clear hb1 hs1)
          | (go_at_call 44; refine (normal_taut w1 v zs (HI.out.below HB1.out) HE.out HT.out).mono ?_; rintro e w2 ⟨rfl, hb2⟩; have HB2 := Lib.hid hb2; clear hb2))
        refine bodyPost_ret (v := .tuple #[.slice none 0 0, .bool false, .int .i64 10]) (by simp [results, Try.results27, go_sem]) rfl (rest_bad (bt HB1.out (Nat.le_refl _) HB2.out) HR0.out (by decide) rfl)
    · have hset := settle_bad HI'.out hA
      have HR0 := Lib.hid (restE_a HE.out hA)
      have HA := Lib.hid hA
      have q1 : (asgE us != 0) = true := by simpa using hA
      have q2 : (asgE us == 0) = false := by simpa using hA
      generalize hx : asgE us = x at hset q1 q2
      have HX := Lib.hid hx
      clear hA hx
      go_enter Try.func27, Try.ntmps27
      go_wp2_with (first
        | (go_at_call 43; refine hc.mono ?_; rintro e w' ⟨rfl, rfl⟩)
        | (go_at_call 50; refine hset.mono ?_; rintro e w1 ⟨rfl, hb1⟩))
      refine bodyPost_ret (v := .tuple #[.slice none 0 0, .bool false, .int .i64 x]) (by simp [results, Try.results27, go_sem]) rfl (rest_bad hb1 (HR0.out.trans HX.out) (by rw [← HX.out]; exact HA.out) rfl)
  · have HR0 := Lib.hid (restE_w (us := us) hE)
    have HE := Lib.hid hE
    have q1 : (wrongE zs != 0) = true := by simpa using hE
    have q2 : (wrongE zs == 0) = false := by simpa using hE
    generalize hx : wrongE zs = x at hc q1 q2
    have HX := Lib.hid hx
    clear hE hx
    go_enter Try.func27, Try.ntmps27
    go_wp2_with (go_at_call 43; refine hc.mono ?_; rintro e w' ⟨rfl, rfl⟩)
    refine bodyPost_ret (v := .tuple #[.slice none 0 0, .bool false, .int .i64 x]) (by simp [results, Try.results27, go_sem]) rfl (rest_bad (Below.refl _ _) (HR0.out.trans HX.out) (by rw [← HX.out]; exact HE.out) rfl)

end Go.Proofs.Ytcppmjgglcobcaa

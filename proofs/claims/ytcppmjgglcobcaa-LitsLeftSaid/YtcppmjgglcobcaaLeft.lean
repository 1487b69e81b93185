/- LitsLeft: the walk of the statement's Go function. -/
import Derived.Test.YtcppmjgglcobcaaRests
namespace Go.Proofs.Ytcppmjgglcobcaa
open Go.RowKit Go.Shelf Go.Lib Go.Sort

theorem all_any (w : World) (v u : Value) (zs : List Int) (bs : List Bool) (h : Ints w v zs) (h' : Bools w u bs) :
    Calls Try.prog 33 #[v, u] w fun e w' => e = .returned (.bool (valE zs bs.length == 0)) ∧ w = w' := by
  have hv := Value_any w v u zs bs h h'
  generalize valE zs bs.length = E at hv ⊢
  generalize valB zs bs = B at hv
  clear h h'
  go_enter Try.func33, Try.ntmps33
  go_wp2_with (go_at_call 20; refine hv.mono ?_; rintro e w' ⟨rfl, rfl⟩)
  go_ret
  exact ⟨rfl, rfl⟩

theorem value_any (w : World) (v u : Value) (zs : List Int) (bs : List Bool) (h : Ints w v zs) (h' : Bools w u bs) :
    Calls Try.prog 34 #[v, u] w fun e w' => e = .returned (.bool (valB zs bs)) ∧ w = w' := by
  have hv := Value_any w v u zs bs h h'
  generalize valE zs bs.length = E at hv
  generalize valB zs bs = B at hv ⊢
  clear h h'
  go_enter Try.func34, Try.ntmps34
  go_wp2_with (go_at_call 20; refine hv.mono ?_; rintro e w' ⟨rfl, rfl⟩)
  go_ret
  exact ⟨rfl, rfl⟩

/-- An assignment of a model: its literals are true by it. -/
def Good (us : List Int) (bs : List Bool) : Prop := us.length ≤ 101 ∧ ∀ x ∈ us, isF x = true ∧ litV bs x = true

theorem litV_neg {bs : List Bool} {x : Int} (h0 : x ≠ 0) (h : litV bs x = true) : litV bs (-x) = false := by
  unfold litV at h ⊢
  rw [absI_neg_eq]
  generalize bs.getD (absI x - 1).toNat false = b at h ⊢
  by_cases hp : 0 < x
  · have h2 : ¬ 0 < -x := by omega
    rw [decide_eq_true hp] at h
    rw [decide_eq_false h2]
    cases b <;> simp_all
  · have h2 : 0 < -x := by omega
    rw [decide_eq_false hp] at h
    rw [decide_eq_true h2]
    cases b <;> simp_all

theorem good_asgE {us : List Int} {bs : List Bool} (h : Good us bs) : asgE us = 0 := by
  refine asgE_ok (by have := h.1; omega) (List.all_eq_true.2 fun x hx => (h.2 x hx).1) (taut_false.2 fun x hx hn => ?_)
  have h1 := litV_neg (isF_yes (h.2 x hx).1).1 (h.2 x hx).2
  rw [(h.2 _ hn).2] at h1; cases h1

theorem valE_zero {zs : List Int} {m : Nat} (h : valE zs m = 0) : wrongE zs = 0 ∧ m ≤ 262144 ∧ zs.all (inM m) = true := by
  by_cases h1 : wrongE zs = 0
  · by_cases h2 : 262144 < m
    · rw [valE_l h1 h2] at h; cases h
    · cases h3 : zs.all (inM m)
      · rw [valE_n h1 h2 h3] at h; cases h
      · exact ⟨h1, by omega, rfl⟩
  · rw [valE_w h1] at h; exact absurd h h1

theorem leave_mem {ns us : List Int} {x : Int} : x ∈ leave ns us ↔ x ∈ ns ∧ -x ∉ us := by
  unfold leave; rw [List.mem_filter]; simp

/-- What is left has the clause's value. -/
theorem leave_val {zs ns us : List Int} {bs : List Bool} (hE : valE zs bs.length = 0) (hnf : NF zs ns) (hg : Good us bs) : valB (leave ns us) bs = valB zs bs ∧ (leave ns us).length ≤ zs.length := by
  obtain ⟨h1, h2, h3⟩ := valE_zero hE
  obtain ⟨h4, h5⟩ := wrongE_zero h1
  have hlen : (leave ns us).length ≤ zs.length := Nat.le_trans (List.length_filter_le _ _) hnf.length_le
  have hsub : ∀ x ∈ leave ns us, x ∈ zs := fun x hx => (hnf.2 x).1 (leave_mem.1 hx).1
  have hE2 : valE (leave ns us) bs.length = 0 :=
    valE_ok (wrongE_ok (by omega) (List.all_eq_true.2 fun x hx => List.all_eq_true.1 h5 x (hsub x hx))) (by omega) (List.all_eq_true.2 fun x hx => List.all_eq_true.1 h3 x (hsub x hx))
  refine ⟨?_, hlen⟩
  rw [valB_yes hE2, valB_yes hE, Bool.eq_iff_iff, List.any_eq_true, List.any_eq_true]
  constructor
  · rintro ⟨x, hx, hv⟩; exact ⟨x, hsub x hx, hv⟩
  · rintro ⟨x, hx, hv⟩
    refine ⟨x, leave_mem.2 ⟨(hnf.2 x).2 hx, fun hn => ?_⟩, hv⟩
    have h6 := litV_neg (isF_yes (hg.2 _ hn).1).1 (hg.2 _ hn).2
    rw [Int.neg_neg, hv] at h6; cases h6

theorem hit_val {zs ns us : List Int} {bs : List Bool} (hE : valE zs bs.length = 0) (hnf : NF zs ns) (hg : Good us bs) (hx : ∃ x ∈ ns, x ∈ us) : valB zs bs = true := by
  obtain ⟨x, h1, h2⟩ := hx
  rw [valB_yes hE, List.any_eq_true]
  exact ⟨x, (hnf.2 x).1 h1, (hg.2 x h2).2⟩

theorem rest_c_taut {w : World} {zs us ns : List Int} {F : Nat} {args : Array Value} (h : Calls Try.prog F args w (RestPost w zs us ns)) (hE : restE zs us = 10) :
    Calls Try.prog F args w fun e w' => ∃ A c, e = .returned (.tuple #[.slice A 0 c, .bool false, .int .i64 10]) ∧ Below w.heap.size w w' := by
  refine h.mono ?_
  rintro e w' ⟨hb, v, ds, ok, rfl, ho, (⟨h1, _⟩ | ⟨h1, _⟩ | ⟨_, rfl, rfl⟩)⟩
  · rw [hE] at h1; cases h1
  · rw [hE] at h1; cases h1
  · obtain ⟨A, c, rfl⟩ := own_slice ho
    exact ⟨A, c, by rw [hE]; rfl, hb⟩
theorem rest_c_hit {w : World} {zs us ns : List Int} {F : Nat} {args : Array Value} (h : Calls Try.prog F args w (RestPost w zs us ns)) (hE : restE zs us = 0) (hx : ∃ x ∈ ns, x ∈ us) :
    Calls Try.prog F args w fun e w' => ∃ A c, e = .returned (.tuple #[.slice A 0 c, .bool true, .int .i64 0]) ∧ Below w.heap.size w w' := by
  refine h.mono ?_
  rintro e w' ⟨hb, v, ds, ok, rfl, ho, (⟨_, _, rfl, rfl⟩ | ⟨_, h1, _⟩ | ⟨h1, _⟩)⟩
  · obtain ⟨A, c, rfl⟩ := own_slice ho
    exact ⟨A, c, by rw [hE]; rfl, hb⟩
  · obtain ⟨x, h2, h3⟩ := hx; exact absurd h3 (h1 x h2)
  · exact absurd hE h1
theorem rest_c_no {w : World} {zs us ns : List Int} {F : Nat} {args : Array Value} (h : Calls Try.prog F args w (RestPost w zs us ns)) (hE : restE zs us = 0) (hx : ¬ ∃ x ∈ ns, x ∈ us) :
    Calls Try.prog F args w fun e w' => ∃ A c, e = .returned (.tuple #[.slice A (leave ns us).length c, .bool false, .int .i64 0]) ∧ Below w.heap.size w w' ∧ Ints w' (.slice A (leave ns us).length c) (leave ns us) := by
  refine h.mono ?_
  rintro e w' ⟨hb, v, ds, ok, rfl, ho, (⟨_, h1, _⟩ | ⟨_, _, rfl, rfl⟩ | ⟨h1, _⟩)⟩
  · exact absurd h1 hx
  · obtain ⟨A, c, rfl⟩ := own_slice ho
    exact ⟨A, c, by rw [hE], hb, own_ints ho⟩
  · exact absurd hE h1

theorem u64_wrap (x : Int) : ∃ y : Nat, IntKind.u64.wrap x = (y : Int) ∧ y ≤ 18446744073709551615 := by
  refine ⟨(x % 18446744073709551616).toNat, ?_, ?_⟩
  · rw [IntKind.wrap_u64]; omega
  · omega

theorem good_more {us : List Int} {bs : List Bool} {r : Nat} {b : Bool} (h : Good us bs) (hl : us.length ≤ 100) (hb : bs.getD r false = b) (hr : r < 262144) : Good (us ++ [if b = true then ((r + 1 : Nat) : Int) else -((r + 1 : Nat) : Int)]) bs := by
  refine ⟨by simp; omega, fun x hx => ?_⟩
  rcases List.mem_append.1 hx with hx | hx
  · exact h.2 x hx
  · rw [List.mem_singleton] at hx
    subst hx
    cases b
    · rw [if_neg (by simp)]
      have ha : absI (-((r + 1 : Nat) : Int)) = ((r + 1 : Nat) : Int) := by unfold absI; omega
      exact ⟨isF_mid (by omega) (by omega) (by omega), by rw [litV_eq ha hb, decide_eq_false (by omega)]; rfl⟩
    · rw [if_pos rfl]
      have ha : absI (((r + 1 : Nat) : Int)) = ((r + 1 : Nat) : Int) := by unfold absI; omega
      exact ⟨isF_mid (by omega) (by omega) (by omega), by rw [litV_eq ha hb, decide_eq_true (by omega)]; rfl⟩

set_option maxHeartbeats 8000000 in
set_option maxRecDepth 100000 in
theorem left_walk (w : World) (v u p : Value) (zs : List Int) (bs : List Bool) (ps : List Int) (h : Ints w v zs) (h' : Bools w u bs) (h2 : Ints w p ps) :
    Calls Try.prog 8 #[v, u, p] w fun e w' => e = .returned (.bool true) ∧ Below w.heap.size w w' := by
  have hw := works_any w
  have HI := Lib.hid h
  have HI' := Lib.hid h'
  obtain ⟨A, c, rfl, hr⟩ := h.reads
  obtain ⟨A', c', rfl, hr'⟩ := h'.slice
  obtain ⟨A2, c2, rfl, hr2⟩ := h2.reads
  have hmb := h'.len
  have hml := h.len
  have hmp := h2.len
  unfold maxLen at hmb hml hmp
  have HR' := Lib.hid hr'
  have HR2 := Lib.hid hr2
  generalize hm : bs.length = m at *
  have HM := Lib.hid hm
  generalize hn : ps.length = n at *
  have HN := Lib.hid hn
  generalize hl : zs.length = l at *
  have HL := Lib.hid hl
  clear h h' h2 hr hr' hr2 hm hn hl
  by_cases hE : valE zs m = 0
  · have HE := Lib.hid hE
    by_cases hbig : 100 < m
    · clear hE
      go_enter Try.func8, Try.ntmps8
      go_wp2_with (first
        | (go_at_call 16; refine hw.mono ?_; rintro e w1 ⟨rfl, hb1⟩; have HB1 := Lib.hid hb1; clear hb1)
        | (go_at_call 33; refine (all_any w1 _ _ zs bs (HI.out.below HB1.out) (HI'.out.below HB1.out)).mono ?_; rw [HM.out, HE.out]; rintro e w' ⟨rfl, rfl⟩))
      go_ret
      exact ⟨rfl, HB1.out⟩
    · have hm100 : m ≤ 100 := by omega
      obtain ⟨i0, hi0, hz0, hz1, hz2⟩ := info_parts int_info
      clear hE hbig
      go_enter Try.func8, Try.ntmps8
      go_wp2_with (first
        | (go_at_call 16; refine hw.mono ?_; rintro e w1 ⟨rfl, hb1⟩; have HB1 := Lib.hid hb1; clear hb1)
        | (go_at_call 33; refine (all_any w1 _ _ zs bs (HI.out.below HB1.out) (HI'.out.below HB1.out)).mono ?_; rw [HM.out, HE.out]; rintro e w' ⟨rfl, rfl⟩))
      go_loopw [7, 27] (fun q i wr => ∃ (k : Nat) (us : List Int), k ≤ n ∧ i = .int .i64 k ∧ Below w1.heap.size w1 wr ∧ wr.ownsRow w1.heap.size 3 1 q us.length (ints us) ∧ Good us bs) (fun _ i _ => n - (intOf i).toNat)
      case atStart => exact ⟨0, [], Nat.zero_le _, rfl, Below.refl _ _, World.ownsRow_nil _ _ _ _, by simp [Good]⟩
      case round =>
        obtain ⟨k, us, hk, rfl, hbw, how, hgd⟩ := hrel
        have HOW := Lib.hid how
        have HGD := Lib.hid hgd
        obtain ⟨A7, c7, rfl⟩ := own_slice how
        have hul := hgd.1
        clear how hgd
        by_cases hlt : k < n
        · obtain ⟨ad, x0, rfl, _, hq, hcell⟩ := (((HR2.out.below HB1.out).more HB1.out.size).below hbw).at_ hlt
          have hkl : k < ps.length := by rw [HN.out]; exact hlt
          have hq' : x0 = .int .i64 (ps.getD k 0) := by
            simp [hkl] at hq
            simp [List.getD, hkl, ← hq]
          subst hq'
          generalize ps.getD k 0 = x at hcell
          clear hq hkl
          by_cases hm0 : m = 0
          · have hmz : ((m : Int) == 0) = true := by simpa using (show (m : Int) = 0 by omega)
            clear hm0
            have hA := good_asgE HGD.out
            have HWE := Lib.hid (valE_zero HE.out).1
            have HINT : Hid (Ints wr (.slice A l c) zs) := (HI.out.below HB1.out).below hbw
            have HB : Hid (Bools wr (.slice A' m c') bs) := (HI'.out.below HB1.out).below hbw
            have HUS : Hid (Ints wr (.slice A7 us.length c7) us) := own_ints HOW.out
            cases ht : taut zs
            · obtain ⟨ns, hnf⟩ := nf_exists HWE.out ht
              have hR := restE_ok HWE.out hA ht
              have HR0 := Lib.hid (Rest_any wr _ _ zs us ns HINT.out HUS.out (fun _ => hnf))
              by_cases hx : ∃ x ∈ ns, x ∈ us
              · have hc := rest_c_hit HR0.out hR hx
                have HV := Lib.hid (hit_val (by rw [HM.out]; exact HE.out) hnf HGD.out hx)
                clear hx hnf hR ht hA
                go_wp2_with (first
                  | (go_at_call 27; refine hc.mono ?_; rintro e w3 ⟨A9, c9, rfl, hb3⟩; have HB3 := Lib.hid hb3; clear hb3)
                  | (go_at_call 34; refine (value_any w3 _ _ zs bs (HINT.out.below HB3.out) (HB.out.below HB3.out)).mono ?_; rw [HV.out]; rintro e w' ⟨rfl, rfl⟩))
                go_ret
                exact ⟨rfl, bt (bt HB1.out (Nat.le_refl _) hbw) (Nat.le_refl _) HB3.out⟩
              · have hc := rest_c_no HR0.out hR hx
                obtain ⟨hv1, hv2⟩ := leave_val (by rw [HM.out]; exact HE.out) hnf HGD.out
                rw [HL.out] at hv2
                have HV := Lib.hid hv1
                generalize leave ns us = ds at hc HV hv2
                generalize hvb : valB zs bs = vb at HV
                have HVB := Lib.hid hvb
                have t1 : (vb == vb) = true := by simp
                clear hx hnf hR ht hA hv1 hvb
                go_wp2_with (first
                  | (go_at_call 27; refine hc.mono ?_; rintro e w3 ⟨A9, c9, rfl, hb3, hi3⟩; have HB3 := Lib.hid hb3; have HI3 := Lib.hid hi3; clear hb3 hi3)
                  | (go_at_call 34; with_reducible refine (value_any w3 _ _ ds bs HI3.out (HB.out.below HB3.out)).mono ?_; rw [HV.out]; rintro e w' ⟨rfl, rfl⟩)
                  | (go_at_call 34; with_reducible refine (value_any w3 _ _ zs bs (HINT.out.below HB3.out) (HB.out.below HB3.out)).mono ?_; rw [HVB.out]; rintro e w' ⟨rfl, rfl⟩))
                go_ret
                exact ⟨rfl, bt (bt HB1.out (Nat.le_refl _) hbw) (Nat.le_refl _) HB3.out⟩
            · have hR := restE_t HWE.out hA ht
              have hc := rest_c_taut (Rest_any wr _ _ zs us [] HINT.out HUS.out (fun h => by rw [hR] at h; cases h)) hR
              clear ht hA hR
              go_wp2_with (first
                | (go_at_call 27; refine hc.mono ?_; rintro e w3 ⟨A9, c9, rfl, hb3⟩; have HB3 := Lib.hid hb3; clear hb3))
              go_ret
              exact ⟨rfl, bt (bt HB1.out (Nat.le_refl _) hbw) (Nat.le_refl _) HB3.out⟩
          · by_cases hu100 : 100 < us.length
            · have hmz : ((m : Int) == 0) = false := by simpa using fun e => hm0 (by omega)
              have hA := good_asgE HGD.out
              have HWE := Lib.hid (valE_zero HE.out).1
              have HINT : Hid (Ints wr (.slice A l c) zs) := (HI.out.below HB1.out).below hbw
              have HB : Hid (Bools wr (.slice A' m c') bs) := (HI'.out.below HB1.out).below hbw
              have HUS : Hid (Ints wr (.slice A7 us.length c7) us) := own_ints HOW.out
              cases ht : taut zs
              · obtain ⟨ns, hnf⟩ := nf_exists HWE.out ht
                have hR := restE_ok HWE.out hA ht
                have HR0 := Lib.hid (Rest_any wr _ _ zs us ns HINT.out HUS.out (fun _ => hnf))
                by_cases hx : ∃ x ∈ ns, x ∈ us
                · have hc := rest_c_hit HR0.out hR hx
                  have HV := Lib.hid (hit_val (by rw [HM.out]; exact HE.out) hnf HGD.out hx)
                  clear hx hnf hR ht hA
                  go_wp2_with (first
                    | (go_at_call 27; refine hc.mono ?_; rintro e w3 ⟨A9, c9, rfl, hb3⟩; have HB3 := Lib.hid hb3; clear hb3)
                    | (go_at_call 34; refine (value_any w3 _ _ zs bs (HINT.out.below HB3.out) (HB.out.below HB3.out)).mono ?_; rw [HV.out]; rintro e w' ⟨rfl, rfl⟩))
                  go_ret
                  exact ⟨rfl, bt (bt HB1.out (Nat.le_refl _) hbw) (Nat.le_refl _) HB3.out⟩
                · have hc := rest_c_no HR0.out hR hx
                  obtain ⟨hv1, hv2⟩ := leave_val (by rw [HM.out]; exact HE.out) hnf HGD.out
                  rw [HL.out] at hv2
                  have HV := Lib.hid hv1
                  generalize leave ns us = ds at hc HV hv2
                  generalize hvb : valB zs bs = vb at HV
                  have HVB := Lib.hid hvb
                  have t1 : (vb == vb) = true := by simp
                  clear hx hnf hR ht hA hv1 hvb
                  go_wp2_with (first
                    | (go_at_call 27; refine hc.mono ?_; rintro e w3 ⟨A9, c9, rfl, hb3, hi3⟩; have HB3 := Lib.hid hb3; have HI3 := Lib.hid hi3; clear hb3 hi3)
                    | (go_at_call 34; with_reducible refine (value_any w3 _ _ ds bs HI3.out (HB.out.below HB3.out)).mono ?_; rw [HV.out]; rintro e w' ⟨rfl, rfl⟩)
                    | (go_at_call 34; with_reducible refine (value_any w3 _ _ zs bs (HINT.out.below HB3.out) (HB.out.below HB3.out)).mono ?_; rw [HVB.out]; rintro e w' ⟨rfl, rfl⟩))
                  go_ret
                  exact ⟨rfl, bt (bt HB1.out (Nat.le_refl _) hbw) (Nat.le_refl _) HB3.out⟩
              · have hR := restE_t HWE.out hA ht
                have hc := rest_c_taut (Rest_any wr _ _ zs us [] HINT.out HUS.out (fun h => by rw [hR] at h; cases h)) hR
                clear ht hA hR
                go_wp2_with (first
                  | (go_at_call 27; refine hc.mono ?_; rintro e w3 ⟨A9, c9, rfl, hb3⟩; have HB3 := Lib.hid hb3; clear hb3))
                go_ret
                exact ⟨rfl, bt (bt HB1.out (Nat.le_refl _) hbw) (Nat.le_refl _) HB3.out⟩
            · have hmz : ((m : Int) == 0) = false := by simpa using fun e => hm0 (by omega)
              have hmp' : 0 < m := by omega
              have hul2 : us.length ≤ 100 := by omega
              obtain ⟨y, hy, hy2⟩ := u64_wrap x
              have hmw : IntKind.u64.wrap (m : Int) = m := by rw [IntKind.wrap_u64]; omega
              obtain ⟨r, hr⟩ : ∃ r : Nat, (y : Int) % (m : Int) = (r : Int) := ⟨y % m, by omega⟩
              have hrm : r < m := by have h9 := Int.emod_lt_of_pos (y : Int) (show (0 : Int) < m by omega); rw [hr] at h9; omega
              have hy3 : (y : Int) ≤ 18446744073709551615 := by omega
              obtain ⟨b', off', rfl, hb', hcb⟩ := HR'.out r hrm
              have hcell' := (hbw.cell (p := ⟨b', off' + r, none⟩) (Nat.lt_of_lt_of_le hb' HB1.out.size)).trans ((HB1.out.cell (p := ⟨b', off' + r, none⟩) hb').trans hcb)
              generalize hbe : bs.getD r false = bb at hcell'
              have HGM := Lib.hid (good_more HGD.out hul2 hbe (by omega))
              have HY := Lib.hid hy2
              clear hcb hbe hy2
              cases bb
              · have HV : Hid (Good (us ++ [-((r + 1 : Nat) : Int)]) bs) := HGM.out
                go_wp2_with (at_builtin; refine wpList_append_any _ rfl (.tmp 55) (.tmp 59) _ rfl w1.heap.size 3 i0 _ 1 8 Try.underlying27 hi0 hz0 hz1 hz2 rfl (by omega) (.slice A7 us.length c7) us.length (ints us) rfl (HOW.out.alloc _) (wr.heap.size + 1) (some ⟨wr.heap.size, 0, none⟩) 1 1 [.int .i64 (-(r : Int) - 1)] rfl (reads_one _ _ _) (by simp [Value.oneCell']) (by simp only [maxLen]; omega) (by omega) (by have := hbw.size; simp; omega) ?_; intro v5 w5 hown5 hg5 hat5)
                go_roundw
                case rel =>
                  refine ⟨k + 1, _, by omega, by go_num, (hbw.alloc hbw.size _).grown hg5 (by have := hbw.size; simp; omega) (fun k hk => (HOW.out.lt k hk).1), ?_, HV.out⟩
                  have e9 : -((r + 1 : Nat) : Int) = -(r : Int) - 1 := by omega
                  rw [e9]; simpa using hown5
                case measure => simp [intOf]; omega
              · have HV : Hid (Good (us ++ [((r + 1 : Nat) : Int)]) bs) := HGM.out
                go_wp2_with (at_builtin; refine wpList_append_any _ rfl (.tmp 50) (.tmp 53) _ rfl w1.heap.size 3 i0 _ 1 8 Try.underlying27 hi0 hz0 hz1 hz2 rfl (by omega) (.slice A7 us.length c7) us.length (ints us) rfl (HOW.out.alloc _) (wr.heap.size + 1) (some ⟨wr.heap.size, 0, none⟩) 1 1 [.int .i64 ((r : Int) + 1)] rfl (reads_one _ _ _) (by simp [Value.oneCell']) (by simp only [maxLen]; omega) (by omega) (by have := hbw.size; simp; omega) ?_; intro v5 w5 hown5 hg5 hat5)
                go_roundw
                case rel =>
                  refine ⟨k + 1, _, by omega, by go_num, (hbw.alloc hbw.size _).grown hg5 (by have := hbw.size; simp; omega) (fun k hk => (HOW.out.lt k hk).1), ?_, HV.out⟩
                  have e9 : ((r + 1 : Nat) : Int) = (r : Int) + 1 := by omega
                  rw [e9]; simpa using hown5
                case measure => simp [intOf]; omega
        · have e : k = n := by omega
          subst e
          have hA := good_asgE HGD.out
          have HWE := Lib.hid (valE_zero HE.out).1
          have HINT : Hid (Ints wr (.slice A l c) zs) := (HI.out.below HB1.out).below hbw
          have HB : Hid (Bools wr (.slice A' m c') bs) := (HI'.out.below HB1.out).below hbw
          have HUS : Hid (Ints wr (.slice A7 us.length c7) us) := own_ints HOW.out
          cases ht : taut zs
          · obtain ⟨ns, hnf⟩ := nf_exists HWE.out ht
            have hR := restE_ok HWE.out hA ht
            have HR0 := Lib.hid (Rest_any wr _ _ zs us ns HINT.out HUS.out (fun _ => hnf))
            by_cases hx : ∃ x ∈ ns, x ∈ us
            · have hc := rest_c_hit HR0.out hR hx
              have HV := Lib.hid (hit_val (by rw [HM.out]; exact HE.out) hnf HGD.out hx)
              clear hx hnf hR ht hA
              go_wp2_with (first
                | (go_at_call 27; refine hc.mono ?_; rintro e w3 ⟨A9, c9, rfl, hb3⟩; have HB3 := Lib.hid hb3; clear hb3)
                | (go_at_call 34; refine (value_any w3 _ _ zs bs (HINT.out.below HB3.out) (HB.out.below HB3.out)).mono ?_; rw [HV.out]; rintro e w' ⟨rfl, rfl⟩))
              go_ret
              exact ⟨rfl, bt (bt HB1.out (Nat.le_refl _) hbw) (Nat.le_refl _) HB3.out⟩
            · have hc := rest_c_no HR0.out hR hx
              obtain ⟨hv1, hv2⟩ := leave_val (by rw [HM.out]; exact HE.out) hnf HGD.out
              rw [HL.out] at hv2
              have HV := Lib.hid hv1
              generalize leave ns us = ds at hc HV hv2
              generalize hvb : valB zs bs = vb at HV
              have HVB := Lib.hid hvb
              have t1 : (vb == vb) = true := by simp
              clear hx hnf hR ht hA hv1 hvb
              go_wp2_with (first
                | (go_at_call 27; refine hc.mono ?_; rintro e w3 ⟨A9, c9, rfl, hb3, hi3⟩; have HB3 := Lib.hid hb3; have HI3 := Lib.hid hi3; clear hb3 hi3)
                | (go_at_call 34; with_reducible refine (value_any w3 _ _ ds bs HI3.out (HB.out.below HB3.out)).mono ?_; rw [HV.out]; rintro e w' ⟨rfl, rfl⟩)
                | (go_at_call 34; with_reducible refine (value_any w3 _ _ zs bs (HINT.out.below HB3.out) (HB.out.below HB3.out)).mono ?_; rw [HVB.out]; rintro e w' ⟨rfl, rfl⟩))
              go_ret
              exact ⟨rfl, bt (bt HB1.out (Nat.le_refl _) hbw) (Nat.le_refl _) HB3.out⟩
          · have hR := restE_t HWE.out hA ht
            have hc := rest_c_taut (Rest_any wr _ _ zs us [] HINT.out HUS.out (fun h => by rw [hR] at h; cases h)) hR
            clear ht hA hR
            go_wp2_with (first
              | (go_at_call 27; refine hc.mono ?_; rintro e w3 ⟨A9, c9, rfl, hb3⟩; have HB3 := Lib.hid hb3; clear hb3))
            go_ret
            exact ⟨rfl, bt (bt HB1.out (Nat.le_refl _) hbw) (Nat.le_refl _) HB3.out⟩
  · have HE := Lib.hid hE
    have hEb : (valE zs m == 0) = false := by simpa using hE
    have HEB := Lib.hid hEb
    clear hE hEb
    go_enter Try.func8, Try.ntmps8
    go_wp2_with (first
      | (go_at_call 16; refine hw.mono ?_; rintro e w1 ⟨rfl, hb1⟩; have HB1 := Lib.hid hb1; clear hb1)
      | (go_at_call 33; refine (all_any w1 _ _ zs bs (HI.out.below HB1.out) (HI'.out.below HB1.out)).mono ?_; rw [HM.out, HEB.out]; rintro e w' ⟨rfl, rfl⟩))
    go_ret
    exact ⟨rfl, HB1.out⟩
end Go.Proofs.Ytcppmjgglcobcaa

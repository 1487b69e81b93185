/- Two clauses in the document's answer: their normal forms (both), Without; the literals of one that another one lacks, in the program (missing). -/
import Derived.Test.YtcppmjgglcobcaaVal2
namespace Go.Proofs.Ytcppmjgglcobcaa
open Go.RowKit Go.Shelf Go.Lib Go.Sort

set_option maxHeartbeats 2000000 in
theorem both_any (w : World) (v u : Value) (a b : List Int) (h : Ints w v a) (h' : Ints w u b) : Calls Try.prog 56 #[v, u] w (PairPost w a b) := by
  have hA := Wrong_any w v a h
  have hB := Wrong_any w u b h'
  have HI := Lib.hid h
  have HI' := Lib.hid h'
  clear h h'
  by_cases hEa : wrongE a = 0
  · by_cases hEb : wrongE b = 0
    · have HEA := Lib.hid hEa
      have HEB := Lib.hid hEb
      rw [hEa] at hA
      rw [hEb] at hB
      cases ta : taut a
      · have ca := post_nf (Form0_any w v a HI.out (wrongE_zero hEa).1 (wrongE_zero hEa).2) ta
        have TA := Lib.hid ta
        cases tb : taut b
        · have TB := Lib.hid tb
          clear hEa hEb ta tb
          go_enter Try.func56, Try.ntmps56
          go_wp2_with (first
            | (go_at_call 45; with_reducible refine hA.mono ?_; rintro e w' ⟨rfl, rfl⟩)
            | (go_at_call 45; with_reducible refine hB.mono ?_; rintro e w' ⟨rfl, rfl⟩)
            | (go_at_call 46; with_reducible refine ca.mono ?_; rintro e w1 ⟨m, vm, rfl, hb1, hm, hom⟩; have HM := Lib.hid hm; have HOM := Lib.hid hom; clear hm hom)
            | (go_at_call 46; refine (post_nf (Form0_any w1 u b (HI'.out.below hb1) (wrongE_zero HEB.out).1 (wrongE_zero HEB.out).2) TB.out).mono ?_; rintro e w2 ⟨n, vn, rfl, hb2, hn, hon⟩; have HNN := Lib.hid hn; have HON := Lib.hid hon; clear hn hon))
          refine bodyPost_ret (v := .tuple #[vm, vn, .int .i64 0]) (by simp [results, Try.results56, go_sem]) rfl ⟨bt hb1 (Nat.le_refl _) hb2, .inr ⟨pairE_ok HEA.out HEB.out TA.out TB.out, HEA.out, HEB.out, m, n, vm, vn, rfl, HM.out, HNN.out, HOM.out.below hb2, HON.out.mono hb1.size⟩⟩
        · have TB := Lib.hid tb
          have HP := Lib.hid (pairE_t hEa hEb (.inr tb))
          clear hEa hEb ta tb
          go_enter Try.func56, Try.ntmps56
          go_wp2_with (first
            | (go_at_call 45; with_reducible refine hA.mono ?_; rintro e w' ⟨rfl, rfl⟩)
            | (go_at_call 45; with_reducible refine hB.mono ?_; rintro e w' ⟨rfl, rfl⟩)
            | (go_at_call 46; with_reducible refine ca.mono ?_; rintro e w1 ⟨m, vm, rfl, hb1, hm, hom⟩; have HM := Lib.hid hm; have HOM := Lib.hid hom; clear hm hom)
            | (go_at_call 46; refine (post_taut (Form0_any w1 u b (HI'.out.below hb1) (wrongE_zero HEB.out).1 (wrongE_zero HEB.out).2) TB.out).mono ?_; rintro e w2 ⟨rfl, hb2⟩))
          refine bodyPost_ret (v := .tuple #[.slice none 0 0, .slice none 0 0, .int .i64 10]) (by simp [results, Try.results56, go_sem]) rfl ⟨bt hb1 (Nat.le_refl _) hb2, .inl ⟨by rw [HP.out]; simp, by rw [HP.out]⟩⟩
      · have ca := post_taut (Form0_any w v a HI.out (wrongE_zero hEa).1 (wrongE_zero hEa).2) ta
        have TA := Lib.hid ta
        have HP := Lib.hid (pairE_t hEa hEb (.inl ta))
        cases tb : taut b
        · have TB := Lib.hid tb
          clear hEa hEb ta tb
          go_enter Try.func56, Try.ntmps56
          go_wp2_with (first
            | (go_at_call 45; with_reducible refine hA.mono ?_; rintro e w' ⟨rfl, rfl⟩)
            | (go_at_call 45; with_reducible refine hB.mono ?_; rintro e w' ⟨rfl, rfl⟩)
            | (go_at_call 46; with_reducible refine ca.mono ?_; rintro e w1 ⟨rfl, hb1⟩)
            | (go_at_call 46; refine (post_nf (Form0_any w1 u b (HI'.out.below hb1) (wrongE_zero HEB.out).1 (wrongE_zero HEB.out).2) TB.out).mono ?_; rintro e w2 ⟨n, vn, rfl, hb2, hn, hon⟩; have HNN := Lib.hid hn; have HON := Lib.hid hon; clear hn hon))
          refine bodyPost_ret (v := .tuple #[.slice none 0 0, .slice none 0 0, .int .i64 10]) (by simp [results, Try.results56, go_sem]) rfl ⟨bt hb1 (Nat.le_refl _) hb2, .inl ⟨by rw [HP.out]; simp, by rw [HP.out]⟩⟩
        · have TB := Lib.hid tb
          clear hEa hEb ta tb
          go_enter Try.func56, Try.ntmps56
          go_wp2_with (first
            | (go_at_call 45; with_reducible refine hA.mono ?_; rintro e w' ⟨rfl, rfl⟩)
            | (go_at_call 45; with_reducible refine hB.mono ?_; rintro e w' ⟨rfl, rfl⟩)
            | (go_at_call 46; with_reducible refine ca.mono ?_; rintro e w1 ⟨rfl, hb1⟩)
            | (go_at_call 46; refine (post_taut (Form0_any w1 u b (HI'.out.below hb1) (wrongE_zero HEB.out).1 (wrongE_zero HEB.out).2) TB.out).mono ?_; rintro e w2 ⟨rfl, hb2⟩))
          refine bodyPost_ret (v := .tuple #[.slice none 0 0, .slice none 0 0, .int .i64 10]) (by simp [results, Try.results56, go_sem]) rfl ⟨bt hb1 (Nat.le_refl _) hb2, .inl ⟨by rw [HP.out]; simp, by rw [HP.out]⟩⟩
    · rw [hEa] at hA
      have HP := Lib.hid (pairE_b hEa hEb)
      have HE := Lib.hid hEb
      have q1 : (wrongE b != 0) = true := by simpa using hEb
      have q2 : (wrongE b == 0) = false := by simpa using hEb
      generalize hx : wrongE b = x at hB q1 q2
      have HX := Lib.hid hx
      clear hEa hEb hx
      go_enter Try.func56, Try.ntmps56
      go_wp2_with (first
        | (go_at_call 45; with_reducible refine hA.mono ?_; rintro e w' ⟨rfl, rfl⟩)
        | (go_at_call 45; with_reducible refine hB.mono ?_; rintro e w' ⟨rfl, rfl⟩))
      refine bodyPost_ret (v := .tuple #[.slice none 0 0, .slice none 0 0, .int .i64 x]) (by simp [results, Try.results56, go_sem]) rfl ⟨Below.refl _ _, .inl ⟨by rw [HP.out]; exact HE.out, by rw [HP.out, HX.out]⟩⟩
  · have HP := Lib.hid (pairE_a (b := b) hEa)
    have HE := Lib.hid hEa
    have q1 : (wrongE a != 0) = true := by simpa using hEa
    have q2 : (wrongE a == 0) = false := by simpa using hEa
    generalize hx : wrongE a = x at hA q1 q2
    have HX := Lib.hid hx
    clear hEa hx
    go_enter Try.func56, Try.ntmps56
    go_wp2_with (first
      | (go_at_call 45; with_reducible refine hA.mono ?_; rintro e w' ⟨rfl, rfl⟩))
    refine bodyPost_ret (v := .tuple #[.slice none 0 0, .slice none 0 0, .int .i64 x]) (by simp [results, Try.results56, go_sem]) rfl ⟨Below.refl _ _, .inl ⟨by rw [HP.out]; exact HE.out, by rw [HP.out, HX.out]⟩⟩

set_option maxHeartbeats 1000000 in
theorem Without_any (w : World) (v : Value) (ns : List Int) (t : Int) (h : Ints w v ns) (hl : ns.length ≤ 16384) :
    Calls Try.prog 59 #[v, .int .i64 t] w fun e w' => ∃ v', e = .returned v' ∧ Below w.heap.size w w' ∧ w'.ownsRow w.heap.size 3 1 v' (drop1 ns t).length (ints (drop1 ns t)) ∧ v' ≠ .slice none 0 0 := by
  obtain ⟨A, c, rfl, hr⟩ := h.reads
  obtain ⟨i0, hi0, hz0, hz1, hz2⟩ := info_parts int_info
  have hown0 := World.ownsRow_made (base := w.heap.size) (e := 3) (size := 1) w #[] 0 (Nat.le_refl _) (by simp [maxLen]) rfl
  have hb0 : Below w.heap.size w (w.alloc (.cells #[] 3)) := (Below.refl _ _).alloc (Nat.le_refl _) _
  have HR := Lib.hid hr
  have HO := Lib.hid hown0
  generalize hn : ns.length = n at *
  have HN := Lib.hid hn
  clear h hr hown0 hn
  go_enter Try.func59, Try.ntmps59
  go_wp2
  go_loopw [5, 6] (fun vo i wr => ∃ k : Nat, k ≤ n ∧ i = .int .i64 k ∧ Below w.heap.size w wr ∧ wr.ownsRow w.heap.size 3 1 vo (drop1 (ns.take k) t).length (ints (drop1 (ns.take k) t)) ∧ vo ≠ .slice none 0 0) (fun _ i _ => n - (intOf i).toNat)
  case atStart => exact ⟨0, Nat.zero_le _, rfl, hb0, by simpa [drop1] using HO.out, by simp⟩
  case round =>
    obtain ⟨k, hk, rfl, hbw, how, hne⟩ := hrel
    have HOW := Lib.hid how
    have HNE := Lib.hid hne
    clear how hne
    by_cases hlt : k < n
    · obtain ⟨ad, u, rfl, _, hu, hcell⟩ := (HR.out.below hbw).at_ hlt
      have hu' : u = .int .i64 (ns.getD k 0) := by
        have hkl : k < ns.length := by rw [HN.out]; exact hlt
        simp [hkl] at hu
        simp [List.getD, hkl, ← hu]
      subst hu'
      have hdt := drop1_take (ns := ns) (t := t) (k := k) (by rw [HN.out]; exact hlt)
      have hdl := drop1_take_length ns t k
      rw [HN.out] at hdl
      generalize hxe : ns.getD k 0 = x at hcell hdt
      have HX := Lib.hid hxe
      clear hxe hu
      by_cases hxt : x = t
      · rw [if_pos hxt, List.append_nil] at hdt
        have hb1 : (x != t) = false := by simpa using hxt
        have HT := Lib.hid hdt
        clear hdt hxt hdl
        go_wp2
        go_roundw
        case rel => exact ⟨k + 1, by omega, by go_num, hbw, by rw [HT.out]; exact HOW.out, HNE.out⟩
        case measure => simp [intOf]; omega
      · rw [if_neg hxt] at hdt
        have hb1 : (x != t) = true := by simpa using hxt
        have HT := Lib.hid hdt
        clear hdt hxt
        generalize drop1 (ns.take k) t = ds at HOW HT hdl
        go_wp2_with (at_builtin; refine wpList_append_any _ rfl (.tmp 20) (.tmp 25) _ rfl w.heap.size 3 i0 _ 1 8 Try.underlying28 hi0 hz0 hz1 hz2 rfl (by omega) u5 ds.length (ints ds) rfl (HOW.out.alloc _) (wr.heap.size + 1) (some ⟨wr.heap.size, 0, none⟩) 1 1 [.int .i64 x] rfl (reads_one _ _ _) (by simp [Value.oneCell']) (by simp only [maxLen]; omega) (by omega) (by have := hbw.size; simp; omega) ?_; intro v2 w2 hown2 hg2 hat2)
        go_roundw
        case rel =>
          refine ⟨k + 1, by omega, by go_num, (hbw.alloc hbw.size _).grown hg2 (by have := hbw.size; simp; omega) (fun k hk => (HOW.out.lt k hk).1), ?_, ?_⟩
          · rw [HT.out]; simpa using hown2
          · obtain ⟨_, _, _, e, _⟩ := own_form hown2 (by omega)
            rw [e]; simp
        case measure => simp [intOf]; omega
    · have : k = n := by omega
      subst this
      go_wp2
      go_ret
      refine ⟨_, rfl, hbw, ?_, HNE.out⟩
      have := HOW.out
      rwa [List.take_of_length_le (by rw [HN.out]; exact Nat.le_refl _)] at this

/-- The literals of m that n has not. -/
def miss (m n : List Int) : List Int := m.filter (fun x => !decide (x ∈ n))
theorem filter_take_succ {p : Int → Bool} {zs : List Int} {k : Nat} {x : Int} (hk : k < zs.length) (hx : zs.getD k 0 = x) : (zs.take (k + 1)).filter p = (zs.take k).filter p ++ (if p x = true then [x] else []) := by
  rw [List.take_succ_eq_append_getElem hk, List.filter_append]
  have e : x = zs[k] := by rw [← hx]; simp [List.getD, hk]
  rw [e]
  by_cases h : p zs[k] = true
  · rw [if_pos h]; simp [h]
  · rw [if_neg h]; simp [h]
theorem miss_length (m n : List Int) : (miss m n).length ≤ m.length := List.length_filter_le _ _
theorem miss_take_length (m n : List Int) (k : Nat) : (miss (m.take k) n).length ≤ m.length := by
  have h1 := miss_length (m.take k) n
  have h2 := List.length_take_le' k m
  omega

set_option maxHeartbeats 2000000 in
theorem missing_any (w : World) (B : Nat) (v u : Value) (m n : List Int) (h : Ints w v m) (h' : Owns B w u n) (hn : NCl n) (hlm : m.length ≤ 16384) (hln : n.length ≤ 16384) :
    Calls Try.prog 55 #[v, u] w fun e w' => ∃ v', e = .returned v' ∧ Below w.heap.size w w' ∧ w'.ownsRow w.heap.size 3 1 v' (miss m n).length (ints (miss m n)) := by
  obtain ⟨A, c, rfl, hr⟩ := h.reads
  obtain ⟨i0, hi0, hz0, hz1, hz2⟩ := info_parts int_info
  have HR := Lib.hid hr
  have HO := Lib.hid h'
  have HN := Lib.hid hn
  have HLN := Lib.hid hln
  generalize hlen : m.length = l at *
  have HL := Lib.hid hlen
  clear h h' hr hn hlen hln
  go_enter Try.func55, Try.ntmps55
  go_wp2
  go_loopw [5, 10] (fun vo i wr => ∃ k : Nat, k ≤ l ∧ i = .int .i64 k ∧ Below w.heap.size w wr ∧ wr.ownsRow w.heap.size 3 1 vo (miss (m.take k) n).length (ints (miss (m.take k) n))) (fun _ i _ => l - (intOf i).toNat)
  case atStart => exact ⟨0, Nat.zero_le _, rfl, Below.refl _ _, by simpa [miss] using World.ownsRow_nil w w.heap.size 3 1⟩
  case round =>
    obtain ⟨k, hk, rfl, hbw, how⟩ := hrel
    have HOW := Lib.hid how
    clear how
    by_cases hlt : k < l
    · obtain ⟨ad, q, rfl, _, hq, hcell⟩ := (HR.out.below hbw).at_ hlt
      have hkl : k < m.length := by rw [HL.out]; exact hlt
      have hq' : q = .int .i64 (m.getD k 0) := by
        simp [hkl] at hq
        simp [List.getD, hkl, ← hq]
      subst hq'
      generalize hxe : m.getD k 0 = x at hcell
      have hft : miss (m.take (k + 1)) n = miss (m.take k) n ++ (if (!decide (x ∈ n)) = true then [x] else []) := filter_take_succ hkl hxe
      have hml := miss_take_length m n k
      rw [HL.out] at hml
      have hhas := has_any wr B u n x (HO.out.below hbw) HN.out HLN.out
      clear hq hxe hkl
      by_cases hx : x ∈ n
      · rw [decide_eq_true hx] at hft hhas
        have hft2 : miss (m.take (k + 1)) n = miss (m.take k) n := by simpa using hft
        have HT := Lib.hid hft2
        clear hft hft2 hx hml
        go_wp2_with (go_at_call 57; refine hhas.mono ?_; rintro e w1 ⟨rfl, hb1⟩)
        go_roundw
        case rel => exact ⟨k + 1, by omega, by go_num, bt hbw (Nat.le_refl _) hb1, by rw [HT.out]; exact own_below HOW.out hb1⟩
        case measure => simp [intOf]; omega
      · rw [decide_eq_false hx] at hft hhas
        have hft2 : miss (m.take (k + 1)) n = miss (m.take k) n ++ [x] := by simpa using hft
        have HT := Lib.hid hft2
        clear hft hft2 hx
        generalize miss (m.take k) n = ds at HOW HT hml
        go_wp2_with (first
          | (go_at_call 57; refine hhas.mono ?_; rintro e w1 ⟨rfl, hb1⟩; have hbw1 := bt hbw (Nat.le_refl _) hb1; have HO1 := Lib.hid (own_below HOW.out hb1))
          | (at_builtin; refine wpList_append_any _ rfl (.tmp 18) (.tmp 20) _ rfl w.heap.size 3 i0 _ 1 8 Try.underlying27 hi0 hz0 hz1 hz2 rfl (by omega) u5 ds.length (ints ds) rfl (HO1.out.alloc _) (w1.heap.size + 1) (some ⟨w1.heap.size, 0, none⟩) 1 1 [.int .i64 x] rfl (reads_one _ _ _) (by simp [Value.oneCell']) (by simp only [maxLen]; omega) (by omega) (by have := hbw1.size; simp; omega) ?_; intro v2 w2 hown2 hg2 hat2))
        go_roundw
        case rel =>
          refine ⟨k + 1, by omega, by go_num, (hbw1.alloc hbw1.size _).grown hg2 (by have := hbw1.size; simp; omega) (fun k hk => (HO1.out.lt k hk).1), ?_⟩
          rw [HT.out]; simpa using hown2
        case measure => simp [intOf]; omega
    · have : k = l := by omega
      subst this
      go_wp2
      go_ret
      refine ⟨_, rfl, hbw, ?_⟩
      have := HOW.out
      rwa [List.take_of_length_le (by rw [HL.out]; exact Nat.le_refl _)] at this
end Go.Proofs.Ytcppmjgglcobcaa

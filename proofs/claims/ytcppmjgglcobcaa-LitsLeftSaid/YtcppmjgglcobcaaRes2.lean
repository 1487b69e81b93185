/- The program's calls on two clauses: a clause without a literal; the normal forms of two clauses, or what is wrong; Resolve; and the statements' own examples (works). -/
import Derived.Test.YtcppmjgglcobcaaRes
namespace Go.Proofs.Ytcppmjgglcobcaa
open Go.RowKit Go.Shelf Go.Lib Go.Sort

/-- A clause without a literal. -/
def drop1 (ns : List Int) (t : Int) : List Int := ns.filter (fun x => x != t)
theorem drop1_take {ns : List Int} {t : Int} {k : Nat} (hk : k < ns.length) : drop1 (ns.take (k + 1)) t = drop1 (ns.take k) t ++ (if ns.getD k 0 = t then [] else [ns.getD k 0]) := by
  unfold drop1
  rw [List.take_succ_eq_append_getElem hk, List.filter_append]
  have e : ns.getD k 0 = ns[k] := by simp [List.getD, hk]
  rw [e]
  by_cases h : ns[k] = t
  · rw [if_pos h]; simp [h]
  · rw [if_neg h]; simp [h]
theorem drop1_length (ns : List Int) (t : Int) : (drop1 ns t).length ≤ ns.length := List.length_filter_le _ _
theorem drop1_take_length (ns : List Int) (t : Int) (k : Nat) : (drop1 (ns.take k) t).length ≤ ns.length := by
  have := drop1_length (ns.take k) t
  have := List.length_take_le' k ns
  omega

theorem run_makeRoom (n : Nat) (hn : n ≤ 1000000) (w : World) : ∃ cur : Array Value, (Instr.makeSlice 28 (.int .i64 0) (.int .i64 n)).run Try.prog w = .ok (.slice (some ⟨w.heap.size, 0, none⟩) 0 n) (w.alloc (.cells cur 3)) ∧ cur.size = n * 1 := by
  obtain ⟨i0, hi0, hz0, hz1, hz2⟩ := info_parts int_info
  have h := run_make (P := Try.prog) w 28 3 i0 _ Try.underlying28 hi0 hz0 .i64 .i64 0 n (by omega) (by omega) (by rw [hz2]; omega) (by omega)
  refine ⟨madeCells (Value.int .i64 0).cells (n * 1), ?_, by simp [size_madeCells]⟩
  rw [h, hz1]
  simp

theorem ret_val {a b : Value} (h : a = b) : Ending.returned a = .returned b := by rw [h]

set_option maxHeartbeats 1000000 in
theorem without_any (w : World) (v : Value) (ns : List Int) (t : Int) (h : Ints w v ns) (hl : ns.length ≤ 16384) :
    Calls Try.prog 58 #[v, .int .i64 t] w fun e w' => ∃ v', e = .returned v' ∧ Below w.heap.size w w' ∧ w'.ownsRow w.heap.size 3 1 v' (drop1 ns t).length (ints (drop1 ns t)) ∧ v' ≠ .slice none 0 0 := by
  obtain ⟨A, c, rfl, hr⟩ := h.reads
  obtain ⟨i0, hi0, hz0, hz1, hz2⟩ := info_parts int_info
  obtain ⟨cur, hmk, hcur⟩ := run_makeRoom ns.length (by omega) w
  have hown0 := World.ownsRow_made (base := w.heap.size) (e := 3) (size := 1) w cur ns.length (Nat.le_refl _) (by simp only [maxLen]; omega) hcur
  have hb0 : Below w.heap.size w (w.alloc (.cells cur 3)) := (Below.refl _ _).alloc (Nat.le_refl _) _
  have HR := Lib.hid hr
  have HO := Lib.hid hown0
  have HC := Lib.hid hcur
  generalize hn : ns.length = n at *
  have HN := Lib.hid hn
  clear h hr hown0 hcur hn
  go_enter Try.func58, Try.ntmps58
  go_wp2
  go_loopw [5, 13] (fun vo i wr => ∃ k : Nat, k ≤ n ∧ i = .int .i64 k ∧ Below w.heap.size w wr ∧ wr.ownsRow w.heap.size 3 1 vo (drop1 (ns.take k) t).length (ints (drop1 (ns.take k) t)) ∧ vo ≠ .slice none 0 0) (fun _ i _ => n - (intOf i).toNat)
  case atStart => exact ⟨0, Nat.zero_le _, rfl, hb0, by simpa [drop1] using HO.out, by simp⟩
  case round =>
    obtain ⟨k, hk, rfl, hbw, how, hne⟩ := hrel
    have HOW := Lib.hid how
    have HNE := Lib.hid hne
    clear how hne
    by_cases hlt : k < n
    · obtain ⟨ad, u, rfl, _, hu, hcell⟩ := (HR.out.below hbw).at_ hlt
      have hu' : u = .int .i64 (ns.getD k 0) := by
        have hkl : k < ns.length := by rw [HN.out]; exact hlt
        simp [hkl] at hu
        simp [List.getD, hkl, ← hu]
      subst hu'
      have hdt := drop1_take (ns := ns) (t := t) (k := k) (by rw [HN.out]; exact hlt)
      have hdl := drop1_take_length ns t k
      rw [HN.out] at hdl
      generalize hxe : ns.getD k 0 = x at hcell hdt
      have HX := Lib.hid hxe
      clear hxe hu
      by_cases hxt : x = t
      · rw [if_pos hxt, List.append_nil] at hdt
        have hb1 : (x != t) = false := by simpa using hxt
        have HT := Lib.hid hdt
        clear hdt hxt hdl
        go_wp2
        go_roundw
        case rel => exact ⟨k + 1, by omega, by go_num, hbw, by rw [HT.out]; exact HOW.out, HNE.out⟩
        case measure => simp [intOf]; omega
      · rw [if_neg hxt] at hdt
        have hb1 : (x != t) = true := by simpa using hxt
        have HT := Lib.hid hdt
        clear hdt hxt
        generalize drop1 (ns.take k) t = ds at HOW HT hdl
        go_wp2_with (at_builtin; refine wpList_append_any _ rfl (.tmp 20) (.tmp 22) _ rfl w.heap.size 3 i0 _ 1 8 Try.underlying28 hi0 hz0 hz1 hz2 rfl (by omega) u5 ds.length (ints ds) rfl (HOW.out.alloc _) (wr.heap.size + 1) (some ⟨wr.heap.size, 0, none⟩) 1 1 [.int .i64 x] rfl (reads_one _ _ _) (by simp [Value.oneCell']) (by simp only [maxLen]; omega) (by omega) (by have := hbw.size; simp; omega) ?_; intro v2 w2 hown2 hg2 hat2)
        go_roundw
        case rel =>
          refine ⟨k + 1, by omega, by go_num, (hbw.alloc hbw.size _).grown hg2 (by have := hbw.size; simp; omega) (fun k hk => (HOW.out.lt k hk).1), ?_, ?_⟩
          · rw [HT.out]; simpa using hown2
          · obtain ⟨_, _, _, e, _⟩ := own_form hown2 (by omega)
            rw [e]; simp
        case measure => simp [intOf]; omega
    · have : k = n := by omega
      subst this
      go_wp2
      go_ret
      refine ⟨_, rfl, hbw, ?_, HNE.out⟩
      have := HOW.out
      rwa [List.take_of_length_le (by rw [HN.out]; exact Nat.le_refl _)] at this

/-- What is wrong with two clauses: with the first, with the second; 10: one has no normal form. -/
def pairE (a b : List Int) : Int := if wrongE a ≠ 0 then wrongE a else if wrongE b ≠ 0 then wrongE b else if taut a = true ∨ taut b = true then 10 else 0
theorem pairE_a {a b : List Int} (h : wrongE a ≠ 0) : pairE a b = wrongE a := if_pos h
theorem pairE_b {a b : List Int} (h : wrongE a = 0) (h' : wrongE b ≠ 0) : pairE a b = wrongE b := by unfold pairE; rw [if_neg (by simp [h]), if_pos h']
theorem pairE_t {a b : List Int} (h : wrongE a = 0) (h' : wrongE b = 0) (ht : taut a = true ∨ taut b = true) : pairE a b = 10 := by unfold pairE; rw [if_neg (by simp [h]), if_neg (by simp [h']), if_pos ht]
theorem pairE_ok {a b : List Int} (h : wrongE a = 0) (h' : wrongE b = 0) (ha : taut a = false) (hb : taut b = false) : pairE a b = 0 := by unfold pairE; rw [if_neg (by simp [h]), if_neg (by simp [h']), if_neg (by simp [ha, hb])]

/-- What normals, and the document's both, answer of two clauses. -/
def PairPost (w : World) (a b : List Int) (e : Ending) (w' : World) : Prop :=
  Below w.heap.size w w' ∧
  ((pairE a b ≠ 0 ∧ e = .returned (.tuple #[.slice none 0 0, .slice none 0 0, .int .i64 (pairE a b)])) ∨
   (pairE a b = 0 ∧ wrongE a = 0 ∧ wrongE b = 0 ∧ ∃ m n vm vn, e = .returned (.tuple #[vm, vn, .int .i64 0]) ∧ NF a m ∧ NF b n ∧ Owns w.heap.size w' vm m ∧ Owns w.heap.size w' vn n))

theorem below3 {a b c d : World} (h1 : Below a.heap.size a b) (h2 : Below b.heap.size b c) (h3 : Below c.heap.size c d) : Below a.heap.size a d :=
  (h1.trans (h2.mono h1.size)).trans (h3.mono (Nat.le_trans h1.size h2.size))

set_option maxHeartbeats 1000000 in
theorem normals_any (w : World) (v u : Value) (a b : List Int) (h : Ints w v a) (h' : Ints w u b) : Calls Try.prog 54 #[v, u] w (PairPost w a b) := by
  have hA := check_any (w.alloc (.cells #[v, u] 28)) v a (h.below ((Below.refl _ _).alloc (Nat.le_refl _) _))
  have hB := check_any (w.alloc (.cells #[v, u] 28)) u b (h'.below ((Below.refl _ _).alloc (Nat.le_refl _) _))
  have hlen := h.len
  have hlen' := h'.len
  unfold maxLen at hlen hlen'
  obtain ⟨A, c, rfl, _⟩ := h.reads
  obtain ⟨A', c', rfl, _⟩ := h'.reads
  generalize hna : a.length = na at *
  generalize hnb : b.length = nb at *
  have HI := Lib.hid h
  have HI' := Lib.hid h'
  have HNA := Lib.hid hna
  have HNB := Lib.hid hnb
  clear h h' hna hnb
  go_enter Try.func54, Try.ntmps54
  go_wp2
  have hb0 : Below w.heap.size w (w.alloc (.cells #[.slice A na c, .slice A' nb c'] 28)) := (Below.refl _ _).alloc (Nat.le_refl _) _
  go_loop [15] (fun i => ∃ k : Nat, k ≤ 2 ∧ i = .int .i64 k ∧ (0 < k → wrongE a = 0) ∧ (1 < k → wrongE b = 0)) (fun i => 2 - (intOf i).toNat)
  case atStart => exact ⟨0, by omega, rfl, by omega, by omega⟩
  case round =>
    obtain ⟨k, hk, rfl, h1, h2⟩ := hrel
    have H1 := Lib.hid h1
    have H2 := Lib.hid h2
    clear h1 h2
    obtain rfl | rfl | rfl : k = 0 ∨ k = 1 ∨ k = 2 := by omega
    · by_cases hE : wrongE a = 0
      · rw [hE] at hA
        have HE := Lib.hid hE
        clear hE
        go_wp2_with (go_at_call 43; refine hA.mono ?_; rintro e w' ⟨rfl, rfl⟩)
        go_round
        case rel => exact ⟨1, by omega, by go_num, fun _ => HE.out, by omega⟩
        case measure => simp [intOf]
      · have HP := Lib.hid (pairE_a (b := b) hE)
        have HE := Lib.hid hE
        have hb1 : (wrongE a != 0) = true := by simpa using hE
        have hb2 : (wrongE a == 0) = false := by simpa using hE
        generalize hx : wrongE a = x at hA hb1 hb2
        have HX := Lib.hid hx
        clear hE hx
        go_wp2_with (go_at_call 43; refine hA.mono ?_; rintro e w' ⟨rfl, rfl⟩)
        refine bodyPost_ret (v := .tuple #[.slice none 0 0, .slice none 0 0, .int .i64 x]) (by simp [results, Try.results54, go_sem]) rfl ⟨hb0, .inl ⟨by rw [HP.out]; exact HE.out, by rw [HP.out, HX.out]⟩⟩
    · by_cases hE : wrongE b = 0
      · rw [hE] at hB
        have HE := Lib.hid hE
        clear hE
        go_wp2_with (go_at_call 43; refine hB.mono ?_; rintro e w' ⟨rfl, rfl⟩)
        go_round
        case rel => exact ⟨2, by omega, by go_num, fun _ => H1.out (by omega), fun _ => HE.out⟩
        case measure => simp [intOf]
      · have HP := Lib.hid (pairE_b (H1.out (by omega)) hE)
        have HE := Lib.hid hE
        have hb1 : (wrongE b != 0) = true := by simpa using hE
        have hb2 : (wrongE b == 0) = false := by simpa using hE
        generalize hx : wrongE b = x at hB hb1 hb2
        have HX := Lib.hid hx
        clear hE hx
        go_wp2_with (go_at_call 43; refine hB.mono ?_; rintro e w' ⟨rfl, rfl⟩)
        refine bodyPost_ret (v := .tuple #[.slice none 0 0, .slice none 0 0, .int .i64 x]) (by simp [results, Try.results54, go_sem]) rfl ⟨hb0, .inl ⟨by rw [HP.out]; exact HE.out, by rw [HP.out, HX.out]⟩⟩
    · have hEa := H1.out (by omega)
      have hEb := H2.out (by omega)
      have HEA := Lib.hid hEa
      have HEB := Lib.hid hEb
      have HB0 := Lib.hid hb0
      cases ta : taut a
      · have ca := normal_nf _ _ a (HI.out.below hb0) hEa ta
        have TA := Lib.hid ta
        cases tb : taut b
        · have TB := Lib.hid tb
          clear hEa hEb ta tb hb0
          go_wp2_with (first
            | (go_at_call 44; with_reducible refine ca.mono ?_; rintro e w1 ⟨m, vm, rfl, hb1, hm, hom⟩; have HM := Lib.hid hm; have HOM := Lib.hid hom; clear hm hom)
            | (go_at_call 44; refine (normal_nf w1 _ b (HI'.out.below (HB0.out.trans (hb1.mono HB0.out.size))) HEB.out TB.out).mono ?_; rintro e w2 ⟨n, vn, rfl, hb2, hn, hon⟩; have HNN := Lib.hid hn; have HON := Lib.hid hon; clear hn hon))
          refine bodyPost_ret (v := .tuple #[vm, vn, .int .i64 0]) (by simp [results, Try.results54, go_sem]) rfl ⟨below3 HB0.out hb1 hb2, .inr ⟨pairE_ok HEA.out HEB.out TA.out TB.out, HEA.out, HEB.out, m, n, vm, vn, rfl, HM.out, HNN.out, (HOM.out.below hb2).mono HB0.out.size, HON.out.mono (Nat.le_trans HB0.out.size hb1.size)⟩⟩
        · have TB := Lib.hid tb
          have HP := Lib.hid (pairE_t hEa hEb (.inr tb))
          clear hEa hEb ta tb hb0
          go_wp2_with (first
            | (go_at_call 44; with_reducible refine ca.mono ?_; rintro e w1 ⟨m, vm, rfl, hb1, hm, hom⟩; have HM := Lib.hid hm; have HOM := Lib.hid hom; clear hm hom)
            | (go_at_call 44; refine (normal_taut w1 _ b (HI'.out.below (HB0.out.trans (hb1.mono HB0.out.size))) HEB.out TB.out).mono ?_; rintro e w2 ⟨rfl, hb2⟩))
          refine bodyPost_ret (v := .tuple #[.slice none 0 0, .slice none 0 0, .int .i64 10]) (by simp [results, Try.results54, go_sem]) rfl ⟨below3 HB0.out hb1 hb2, .inl ⟨by rw [HP.out]; simp, by rw [HP.out]⟩⟩
      · have ca := normal_taut _ _ a (HI.out.below hb0) hEa ta
        have TA := Lib.hid ta
        have HP := Lib.hid (pairE_t hEa hEb (.inl ta))
        cases tb : taut b
        · have TB := Lib.hid tb
          clear hEa hEb ta tb hb0
          go_wp2_with (first
            | (go_at_call 44; with_reducible refine ca.mono ?_; rintro e w1 ⟨rfl, hb1⟩)
            | (go_at_call 44; refine (normal_nf w1 _ b (HI'.out.below (HB0.out.trans (hb1.mono HB0.out.size))) HEB.out TB.out).mono ?_; rintro e w2 ⟨n, vn, rfl, hb2, hn, hon⟩; have HNN := Lib.hid hn; have HON := Lib.hid hon; clear hn hon))
          refine bodyPost_ret (v := .tuple #[.slice none 0 0, .slice none 0 0, .int .i64 10]) (by simp [results, Try.results54, go_sem]) rfl ⟨below3 HB0.out hb1 hb2, .inl ⟨by rw [HP.out]; simp, by rw [HP.out]⟩⟩
        · have TB := Lib.hid tb
          clear hEa hEb ta tb hb0
          go_wp2_with (first
            | (go_at_call 44; with_reducible refine ca.mono ?_; rintro e w1 ⟨rfl, hb1⟩)
            | (go_at_call 44; refine (normal_taut w1 _ b (HI'.out.below (HB0.out.trans (hb1.mono HB0.out.size))) HEB.out TB.out).mono ?_; rintro e w2 ⟨rfl, hb2⟩))
          refine bodyPost_ret (v := .tuple #[.slice none 0 0, .slice none 0 0, .int .i64 10]) (by simp [results, Try.results54, go_sem]) rfl ⟨below3 HB0.out hb1 hb2, .inl ⟨by rw [HP.out]; simp, by rw [HP.out]⟩⟩
end Go.Proofs.Ytcppmjgglcobcaa

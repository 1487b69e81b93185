/- Subsumes and Strengthen, of the program and of the document. -/
import Derived.Test.YtcppmjgglcobcaaPair
namespace Go.Proofs.Ytcppmjgglcobcaa
open Go.RowKit Go.Shelf Go.Lib Go.Sort

theorem pairE_zero {a b : List Int} (h : pairE a b = 0) : wrongE a = 0 ∧ wrongE b = 0 ∧ taut a = false ∧ taut b = false := by
  by_cases h1 : wrongE a = 0
  · by_cases h2 : wrongE b = 0
    · cases ta : taut a
      · cases tb : taut b
        · exact ⟨h1, h2, rfl, rfl⟩
        · rw [pairE_t h1 h2 (.inr tb)] at h; cases h
      · rw [pairE_t h1 h2 (.inl ta)] at h; cases h
    · rw [pairE_b h1 h2] at h; exact absurd h h2
  · rw [pairE_a h1] at h; exact absurd h h1

theorem pair_good {w : World} {a b m n : List Int} {F : Nat} {args : Array Value} (h : Calls Try.prog F args w (PairPost w a b)) (hE : pairE a b = 0) (hm : NF a m) (hn : NF b n) :
    Calls Try.prog F args w fun e w' => ∃ vm vn, e = .returned (.tuple #[vm, vn, .int .i64 0]) ∧ Below w.heap.size w w' ∧ Owns w.heap.size w' vm m ∧ Owns w.heap.size w' vn n := by
  refine h.mono ?_
  rintro e w' ⟨hb, (⟨h1, _⟩ | ⟨_, _, _, m', n', vm, vn, rfl, hm', hn', hom, hon⟩)⟩
  · exact absurd hE h1
  · obtain rfl := hm'.unique hm
    obtain rfl := hn'.unique hn
    exact ⟨vm, vn, rfl, hb, hom, hon⟩

theorem pair_bad {w : World} {a b : List Int} {F : Nat} {args : Array Value} (h : Calls Try.prog F args w (PairPost w a b)) (hE : pairE a b ≠ 0) :
    Calls Try.prog F args w fun e w' => e = .returned (.tuple #[.slice none 0 0, .slice none 0 0, .int .i64 (pairE a b)]) ∧ Below w.heap.size w w' := by
  refine h.mono ?_
  rintro e w' ⟨hb, (⟨_, rfl⟩ | ⟨h1, _⟩)⟩
  · exact ⟨rfl, hb⟩
  · exact absurd h1 hE

def SubPost (w : World) (a b m n : List Int) (e : Ending) (w' : World) : Prop :=
  Below w.heap.size w w' ∧ e = .returned (.tuple #[.bool (if pairE a b = 0 then decide (miss m n = []) else false), .int .i64 (pairE a b)])

def StrPost (w : World) (a b m n : List Int) (e : Ending) (w' : World) : Prop :=
  Below w.heap.size w w' ∧ ∃ v ds ok, e = .returned (.tuple #[v, .bool ok, .int .i64 (pairE a b)]) ∧ w'.ownsRow w.heap.size 3 1 v ds.length (ints ds) ∧
    ((pairE a b = 0 ∧ ∃ t, miss m n = [t] ∧ -t ∈ n ∧ ok = true ∧ ds = drop1 n (-t)) ∨ (¬ (pairE a b = 0 ∧ ∃ t, miss m n = [t] ∧ -t ∈ n) ∧ ok = false ∧ ds = []))

theorem own_zero {w : World} {B : Nat} {v : Value} {xs : List Value} (h : w.ownsRow B 3 1 v 0 xs) : ∃ A c, v = .slice A 0 c := by
  rcases h.2 with ⟨rfl, _⟩ | ⟨g, cap, cur, rfl, _⟩
  · exact ⟨_, _, rfl⟩
  · exact ⟨_, _, rfl⟩

theorem one_cell {w : World} {B : Nat} {v : Value} {t : Int} (h : w.ownsRow B 3 1 v [t].length (ints [t])) : ∃ g cap, v = .slice (some ⟨g, 0, none⟩) 1 cap ∧ g < w.heap.size ∧ w.cell? ⟨g, 0, none⟩ = some (.int .i64 t) := by
  obtain ⟨g, cap, cur, rfl, hB, hg, hn, hm, _⟩ := own_form h (by simp)
  exact ⟨g, cap, rfl, (Array.getElem?_eq_some_iff.1 hg).1, own_cell h 0 (by simp)⟩
theorem own_slice {w : World} {B n : Nat} {v : Value} {xs : List Value} (h : w.ownsRow B 3 1 v n xs) : ∃ A c, v = .slice A n c := by
  rcases h.2 with ⟨rfl, h0⟩ | ⟨g, cap, cur, rfl, _⟩
  · exact ⟨_, _, by rw [h0]⟩
  · exact ⟨_, _, rfl⟩

theorem miss_F {m n : List Int} {t : Int} (hm : NCl m) (h : t ∈ miss m n) : -262144 ≤ t ∧ t ≤ 262144 := by
  have := isF_yes (List.all_eq_true.1 hm.2 t (List.mem_filter.1 h).1)
  exact ⟨this.2.1, this.2.2⟩

set_option maxHeartbeats 2000000 in
theorem Subsumes_any (w : World) (v u : Value) (a b m n : List Int) (h : Ints w v a) (h' : Ints w u b) (hmn : pairE a b = 0 → NF a m ∧ NF b n) :
    Calls Try.prog 29 #[v, u] w (SubPost w a b m n) := by
  have hc := normals_any w v u a b h h'
  by_cases hE : pairE a b = 0
  · obtain ⟨hm, hn⟩ := hmn hE
    have hg := pair_good hc hE hm hn
    obtain ⟨ha1, hb1, _, _⟩ := pairE_zero hE
    have hnm := hm.ncl (wrongE_zero ha1).2
    have hnn := hn.ncl (wrongE_zero hb1).2
    have hlm : m.length ≤ 16384 := Nat.le_trans hm.length_le (wrongE_zero ha1).1
    have hln : n.length ≤ 16384 := Nat.le_trans hn.length_le (wrongE_zero hb1).1
    have HE := Lib.hid hE
    have HNN := Lib.hid hnn
    have HLM := Lib.hid hlm
    have HLN := Lib.hid hln
    have HML := Lib.hid (miss_length m n)
    clear h h' hmn hc hE hm hn ha1 hb1 hnm hnn hlm hln
    by_cases hq : (miss m n).length = 0
    · have HQ := Lib.hid hq
      clear hq
      go_enter Try.func29, Try.ntmps29
      go_wp2_with (first
        | (go_at_call 54; refine hg.mono ?_; rintro e w1 ⟨vm, vn, rfl, hb1, hom, hon⟩; have HOM := Lib.hid hom; have HON := Lib.hid hon; clear hom hon)
        | (go_at_call 55; refine (missing_any w1 _ vm vn m n HOM.out.reads HON.out HNN.out HLM.out HLN.out).mono ?_; rintro e w2 ⟨v2, rfl, hb2, ho2⟩; rw [HQ.out] at ho2; obtain ⟨A2, c2, rfl⟩ := own_zero ho2; clear ho2))
      go_ret2
      exact ⟨bt hb1 (Nat.le_refl _) hb2, by rw [HE.out, if_pos rfl, decide_eq_true (List.eq_nil_of_length_eq_zero HQ.out)]; rfl⟩
    · have HQ := Lib.hid hq
      have hq1 : (((miss m n).length : Int) == 0) = false := by simpa using fun e => hq (by rw [e]; rfl)
      have hpos : 0 < (miss m n).length := by omega
      generalize hz : (miss m n).length = z at hq1 hpos
      have HZ := Lib.hid hz
      clear hq hz
      go_enter Try.func29, Try.ntmps29
      go_wp2_with (first
        | (go_at_call 54; refine hg.mono ?_; rintro e w1 ⟨vm, vn, rfl, hb1, hom, hon⟩; have HOM := Lib.hid hom; have HON := Lib.hid hon; clear hom hon)
        | (go_at_call 55; refine (missing_any w1 _ vm vn m n HOM.out.reads HON.out HNN.out HLM.out HLN.out).mono ?_; rintro e w2 ⟨v2, rfl, hb2, ho2⟩; rw [HZ.out] at ho2; obtain ⟨g2, c2, cur2, rfl, _⟩ := own_form ho2 hpos; clear ho2))
      go_ret2
      refine ⟨bt hb1 (Nat.le_refl _) hb2, ?_⟩
      rw [HE.out, if_pos rfl, decide_eq_false (fun e => HQ.out (by rw [e]; rfl))]
      rfl
  · have hg := pair_bad hc hE
    have HE := Lib.hid hE
    have q1 : (pairE a b != 0) = true := by simpa using hE
    have q2 : (pairE a b == 0) = false := by simpa using hE
    generalize hx : pairE a b = x at hg q1 q2
    have HX := Lib.hid hx
    clear h h' hmn hc hE hx
    go_enter Try.func29, Try.ntmps29
    go_wp2_with (go_at_call 54; refine hg.mono ?_; rintro e w1 ⟨rfl, hb1⟩)
    go_ret2
    exact ⟨hb1, by rw [if_neg HE.out, HX.out]; rfl⟩

theorem miss_nil_of {m n : List Int} (h : ∀ x ∈ m, x ∈ n) : miss m n = [] := by
  unfold miss
  rw [List.filter_eq_nil_iff]
  intro x hx; simpa using h x hx
theorem miss_ne {m n : List Int} {x : Int} (hx : x ∈ m) (hn : x ∉ n) : miss m n ≠ [] := by
  intro e
  have : x ∈ miss m n := List.mem_filter.2 ⟨hx, by simpa using hn⟩
  rw [e] at this; cases this

set_option maxHeartbeats 2000000 in
theorem RSubsumes_any (w : World) (v u : Value) (a b m n : List Int) (h : Ints w v a) (h' : Ints w u b) (hmn : pairE a b = 0 → NF a m ∧ NF b n) :
    Calls Try.prog 30 #[v, u] w (SubPost w a b m n) := by
  have hc := both_any w v u a b h h'
  by_cases hE : pairE a b = 0
  · obtain ⟨hm, hn⟩ := hmn hE
    have hg := pair_good hc hE hm hn
    obtain ⟨ha1, hb1, _, _⟩ := pairE_zero hE
    have hlm : m.length ≤ 16384 := Nat.le_trans hm.length_le (wrongE_zero ha1).1
    have HE := Lib.hid hE
    generalize hl : m.length = l at *
    have HL := Lib.hid hl
    clear h h' hmn hc hE hm hn ha1 hb1 hl
    go_enter Try.func30, Try.ntmps30
    go_wp2_with (first
      | (go_at_call 56; refine hg.mono ?_; rintro e w1 ⟨vm, vn, rfl, hb1, hom, hon⟩; obtain ⟨A, c, rfl, hrm⟩ := hom.reads.reads; rw [HL.out] at hrm; have HR := Lib.hid hrm; have HON := Lib.hid hon; have HB1 := Lib.hid hb1; rw [HL.out]; clear hom hon hrm hb1))
    go_loop [9] (fun i => ∃ k : Nat, k ≤ l ∧ i = .int .i64 k ∧ ∀ x ∈ m.take k, x ∈ n) (fun i => l - (intOf i).toNat)
    case atStart => exact ⟨0, Nat.zero_le _, rfl, by simp⟩
    case round =>
      obtain ⟨k, hk, rfl, hall⟩ := hrel
      have HA := Lib.hid hall
      clear hall
      by_cases hlt : k < l
      · obtain ⟨ad, q, rfl, _, hq, hcell⟩ := HR.out.at_ hlt
        have hkl : k < m.length := by rw [HL.out]; exact hlt
        have hq' : q = .int .i64 (m.getD k 0) := by
          simp [hkl] at hq
          simp [List.getD, hkl, ← hq]
        subst hq'
        have hms := take_mem_succ hkl
        have hxm : m.getD k 0 ∈ m := getD_mem hkl
        generalize m.getD k 0 = x at hcell hms hxm
        have hhas := Has_any w1 vn n x HON.out.reads
        have HMS := Lib.hid hms
        have HXM := Lib.hid hxm
        clear hq hkl hms hxm
        by_cases hx : x ∈ n
        · rw [decide_eq_true hx] at hhas
          have HX := Lib.hid hx
          clear hx
          go_wp2_with (go_at_call 53; refine hhas.mono ?_; rintro e w' ⟨rfl, rfl⟩)
          go_round
          case rel =>
            refine ⟨k + 1, by omega, by go_num, fun y hy => ?_⟩
            rcases (HMS.out y).1 hy with hy | hy
            · exact HA.out y hy
            · subst hy; exact HX.out
          case measure => simp [intOf]; omega
        · rw [decide_eq_false hx] at hhas
          have HX := Lib.hid hx
          clear hx
          go_wp2_with (go_at_call 53; refine hhas.mono ?_; rintro e w' ⟨rfl, rfl⟩)
          go_ret2
          exact ⟨HB1.out, by rw [HE.out, if_pos rfl, decide_eq_false (miss_ne HXM.out HX.out)]; rfl⟩
      · have e : k = l := by omega
        subst e
        go_wp2
        go_ret2
        have hA := HA.out
        rw [List.take_of_length_le (by rw [HL.out]; exact Nat.le_refl _)] at hA
        exact ⟨HB1.out, by rw [HE.out, if_pos rfl, decide_eq_true (miss_nil_of hA)]; rfl⟩
  · have hg := pair_bad hc hE
    have HE := Lib.hid hE
    have q1 : (pairE a b != 0) = true := by simpa using hE
    have q2 : (pairE a b == 0) = false := by simpa using hE
    generalize hx : pairE a b = x at hg q1 q2
    have HX := Lib.hid hx
    clear h h' hmn hc hE hx
    go_enter Try.func30, Try.ntmps30
    go_wp2_with (go_at_call 56; refine hg.mono ?_; rintro e w1 ⟨rfl, hb1⟩)
    go_ret2
    exact ⟨hb1, by rw [if_neg HE.out, HX.out]; rfl⟩

/-- What stands when nothing can be strengthened. -/
theorem str_no {w w' : World} {a b m n : List Int} (hb : Below w.heap.size w w') (h : ¬ (pairE a b = 0 ∧ ∃ t, miss m n = [t] ∧ -t ∈ n)) {e : Ending} (he : e = .returned (.tuple #[.slice none 0 0, .bool false, .int .i64 (pairE a b)])) : StrPost w a b m n e w' :=
  ⟨hb, .slice none 0 0, [], false, he, World.ownsRow_nil _ _ _ _, .inr ⟨h, rfl, rfl⟩⟩

set_option maxHeartbeats 2000000 in
theorem Strengthen_any (w : World) (v u : Value) (a b m n : List Int) (h : Ints w v a) (h' : Ints w u b) (hmn : pairE a b = 0 → NF a m ∧ NF b n) :
    Calls Try.prog 31 #[v, u] w (StrPost w a b m n) := by
  have hc := normals_any w v u a b h h'
  by_cases hE : pairE a b = 0
  · obtain ⟨hm, hn⟩ := hmn hE
    have hg := pair_good hc hE hm hn
    obtain ⟨ha1, hb1, _, _⟩ := pairE_zero hE
    have hnm := hm.ncl (wrongE_zero ha1).2
    have hnn := hn.ncl (wrongE_zero hb1).2
    have hlm : m.length ≤ 16384 := Nat.le_trans hm.length_le (wrongE_zero ha1).1
    have hln : n.length ≤ 16384 := Nat.le_trans hn.length_le (wrongE_zero hb1).1
    have HE := Lib.hid hE
    have HNM := Lib.hid hnm
    have HNN := Lib.hid hnn
    have HLM := Lib.hid hlm
    have HLN := Lib.hid hln
    clear h h' hmn hc hE hm hn ha1 hb1 hnm hnn hlm hln
    by_cases hq : (miss m n).length = 1
    · obtain ⟨t, ht⟩ := List.length_eq_one_iff.1 hq
      have HQ := Lib.hid ht
      obtain ⟨ht1, ht2⟩ := miss_F HNM.out (show t ∈ miss m n by rw [ht]; simp)
      clear hq ht
      by_cases htn : -t ∈ n
      · have HTN := Lib.hid htn
        clear htn
        go_enter Try.func31, Try.ntmps31
        go_wp2_with (first
          | (go_at_call 54; refine hg.mono ?_; rintro e w1 ⟨vm, vn, rfl, hb1, hom, hon⟩; have HOM := Lib.hid hom; have HON := Lib.hid hon; have HB1 := Lib.hid hb1; clear hom hon hb1)
          | (go_at_call 55; refine (missing_any w1 _ vm vn m n HOM.out.reads HON.out HNN.out HLM.out HLN.out).mono ?_; rintro e w2 ⟨v2, rfl, hb2, ho2⟩; rw [HQ.out] at ho2; obtain ⟨g2, c2, rfl, hgl, hc20⟩ := one_cell ho2; have HB2 := Lib.hid hb2; have HG2 := Lib.hid hgl; clear ho2 hb2 hgl)
          | (go_at_call 57; refine (has_any w2 _ vn n (-t) (HON.out.below HB2.out) HNN.out HLN.out).mono ?_; rw [decide_eq_true HTN.out]; rintro e w3 ⟨rfl, hb3⟩; have hc30 := (hb3.cell (p := ⟨g2, 0, none⟩) HG2.out).trans hc20; have HB3 := Lib.hid hb3; clear hb3 hc20)
          | (go_at_call 58; refine (without_any w3 vn n (-t) ((HON.out.below HB2.out).below HB3.out).reads HLN.out).mono ?_; rintro e w4 ⟨v4, rfl, hb4, ho4, _⟩; have HB4 := Lib.hid hb4; have HO4 := Lib.hid ho4; clear hb4 ho4))
        refine bodyPost_ret (v := .tuple #[v4, .bool true, .int .i64 0]) (by simp [results, Try.results31, go_sem]) rfl ⟨bt (bt (bt HB1.out (Nat.le_refl _) HB2.out) (Nat.le_refl _) HB3.out) (Nat.le_refl _) HB4.out, v4, _, true, by rw [HE.out], own_mono HO4.out (Nat.le_trans HB1.out.size (Nat.le_trans HB2.out.size HB3.out.size)), .inl ⟨HE.out, t, HQ.out, HTN.out, rfl, rfl⟩⟩
      · have HTN := Lib.hid htn
        clear htn
        go_enter Try.func31, Try.ntmps31
        go_wp2_with (first
          | (go_at_call 54; refine hg.mono ?_; rintro e w1 ⟨vm, vn, rfl, hb1, hom, hon⟩; have HOM := Lib.hid hom; have HON := Lib.hid hon; have HB1 := Lib.hid hb1; clear hom hon hb1)
          | (go_at_call 55; refine (missing_any w1 _ vm vn m n HOM.out.reads HON.out HNN.out HLM.out HLN.out).mono ?_; rintro e w2 ⟨v2, rfl, hb2, ho2⟩; rw [HQ.out] at ho2; obtain ⟨g2, c2, rfl, hgl, hc20⟩ := one_cell ho2; have HB2 := Lib.hid hb2; have HG2 := Lib.hid hgl; clear ho2 hb2 hgl)
          | (go_at_call 57; refine (has_any w2 _ vn n (-t) (HON.out.below HB2.out) HNN.out HLN.out).mono ?_; rw [decide_eq_false HTN.out]; rintro e w3 ⟨rfl, hb3⟩; have HB3 := Lib.hid hb3; clear hb3))
        refine bodyPost_ret (v := .tuple #[.slice none 0 0, .bool false, .int .i64 0]) (by simp [results, Try.results31, go_sem]) rfl (str_no (bt (bt HB1.out (Nat.le_refl _) HB2.out) (Nat.le_refl _) HB3.out) ?_ (by rw [HE.out]))
        rintro ⟨_, t', e, hn'⟩
        rw [HQ.out] at e; cases e; exact HTN.out hn'
    · have HQ := Lib.hid hq
      have hq1 : (((miss m n).length : Int) == 1) = false := by simpa using fun e => hq (by omega)
      have hq2 : (((miss m n).length : Int) != 1) = true := by simpa using fun e => hq (by omega)
      generalize hz : (miss m n).length = z at hq1 hq2
      have HZ := Lib.hid hz
      clear hq hz
      go_enter Try.func31, Try.ntmps31
      go_wp2_with (first
        | (go_at_call 54; refine hg.mono ?_; rintro e w1 ⟨vm, vn, rfl, hb1, hom, hon⟩; have HOM := Lib.hid hom; have HON := Lib.hid hon; have HB1 := Lib.hid hb1; clear hom hon hb1)
        | (go_at_call 55; refine (missing_any w1 _ vm vn m n HOM.out.reads HON.out HNN.out HLM.out HLN.out).mono ?_; rintro e w2 ⟨v2, rfl, hb2, ho2⟩; rw [HZ.out] at ho2; obtain ⟨A2, c2, rfl⟩ := own_slice ho2; have HB2 := Lib.hid hb2; clear ho2 hb2))
      refine bodyPost_ret (v := .tuple #[.slice none 0 0, .bool false, .int .i64 0]) (by simp [results, Try.results31, go_sem]) rfl (str_no (bt HB1.out (Nat.le_refl _) HB2.out) ?_ (by rw [HE.out]))
      rintro ⟨_, t', e, _⟩
      exact HQ.out (by rw [e]; rfl)
  · have hg := pair_bad hc hE
    have HE := Lib.hid hE
    have q1 : (pairE a b != 0) = true := by simpa using hE
    have q2 : (pairE a b == 0) = false := by simpa using hE
    generalize hx : pairE a b = x at hg q1 q2
    have HX := Lib.hid hx
    clear h h' hmn hc hE hx
    go_enter Try.func31, Try.ntmps31
    go_wp2_with (go_at_call 54; refine hg.mono ?_; rintro e w1 ⟨rfl, hb1⟩)
    refine bodyPost_ret (v := .tuple #[.slice none 0 0, .bool false, .int .i64 x]) (by simp [results, Try.results31, go_sem]) rfl (str_no hb1 (fun h => HE.out h.1) (by rw [HX.out]))

theorem miss_step_in {m n : List Int} {k : Nat} {x : Int} (hk : k < m.length) (hx : m.getD k 0 = x) (h : x ∈ n) : miss (m.take (k + 1)) n = miss (m.take k) n := by
  have := filter_take_succ (p := fun x => !decide (x ∈ n)) hk hx
  unfold miss
  simpa [h] using this
theorem miss_step_out {m n : List Int} {k : Nat} {x : Int} (hk : k < m.length) (hx : m.getD k 0 = x) (h : x ∉ n) : miss (m.take (k + 1)) n = miss (m.take k) n ++ [x] := by
  have := filter_take_succ (p := fun x => !decide (x ∈ n)) hk hx
  unfold miss
  simpa [h] using this

set_option maxHeartbeats 2000000 in
theorem RStrengthen_any (w : World) (v u : Value) (a b m n : List Int) (h : Ints w v a) (h' : Ints w u b) (hmn : pairE a b = 0 → NF a m ∧ NF b n) :
    Calls Try.prog 32 #[v, u] w (StrPost w a b m n) := by
  have hc := both_any w v u a b h h'
  by_cases hE : pairE a b = 0
  · obtain ⟨hm, hn⟩ := hmn hE
    have hg := pair_good hc hE hm hn
    obtain ⟨ha1, hb1, _, _⟩ := pairE_zero hE
    have hnm := hm.ncl (wrongE_zero ha1).2
    have hlm : m.length ≤ 16384 := Nat.le_trans hm.length_le (wrongE_zero ha1).1
    have hln : n.length ≤ 16384 := Nat.le_trans hn.length_le (wrongE_zero hb1).1
    have HE := Lib.hid hE
    have HNM := Lib.hid hnm
    have HLN := Lib.hid hln
    have HML := Lib.hid (miss_take_length m n)
    generalize hl : m.length = l at *
    have HL := Lib.hid hl
    clear h h' hmn hc hE hm hn ha1 hb1 hnm hln hl
    go_enter Try.func32, Try.ntmps32
    go_wp2_with (first
      | (go_at_call 56; refine hg.mono ?_; rintro e w1 ⟨vm, vn, rfl, hb1, hom, hon⟩; obtain ⟨A, c, rfl, hrm⟩ := hom.reads.reads; rw [HL.out] at hrm; have HR := Lib.hid hrm; have HON := Lib.hid hon; have HB1 := Lib.hid hb1; rw [HL.out]; clear hom hon hrm hb1))
    go_loop [10, 11, 12] (fun q p i => ∃ (k z : Nat) (t : Int), k ≤ l ∧ i = .int .i64 k ∧ p = .int .i64 z ∧ q = .int .i64 t ∧ z ≤ 16384 ∧ (miss (m.take k) n).length = z ∧ (miss (m.take k) n).getLastD 0 = t) (fun _ _ i => l - (intOf i).toNat)
    case atStart => exact ⟨0, 0, 0, Nat.zero_le _, rfl, rfl, rfl, by omega, by simp [miss], by simp [miss]⟩
    case round =>
      obtain ⟨k, z, t, hk, rfl, rfl, rfl, hz, hmz, hmt⟩ := hrel
      have HMZ := Lib.hid hmz
      have HMT := Lib.hid hmt
      clear hmz hmt
      by_cases hlt : k < l
      · obtain ⟨ad, q, rfl, _, hq, hcell⟩ := HR.out.at_ hlt
        have hkl : k < m.length := by rw [HL.out]; exact hlt
        have hq' : q = .int .i64 (m.getD k 0) := by
          simp [hkl] at hq
          simp [List.getD, hkl, ← hq]
        subst hq'
        generalize hxe : m.getD k 0 = x at hcell
        have hhas := Has_any w1 vn n x HON.out.reads
        by_cases hx : x ∈ n
        · have HS := Lib.hid (miss_step_in hkl hxe hx)
          rw [decide_eq_true hx] at hhas
          clear hx hq hxe hkl
          go_wp2_with (go_at_call 53; refine hhas.mono ?_; rintro e w' ⟨rfl, rfl⟩)
          go_round
          case rel => exact ⟨k + 1, z, t, by omega, by go_num, rfl, rfl, hz, by rw [HS.out, HMZ.out], by rw [HS.out, HMT.out]⟩
          case measure => simp [intOf]; omega
        · have HS := Lib.hid (miss_step_out hkl hxe hx)
          rw [decide_eq_false hx] at hhas
          have hz1 : z + 1 ≤ 16384 := by
            have h1 := HML.out (k + 1)
            rw [HS.out, List.length_append, HMZ.out] at h1
            simp at h1; omega
          clear hx hq hxe hkl
          go_wp2_with (go_at_call 53; refine hhas.mono ?_; rintro e w' ⟨rfl, rfl⟩)
          go_round
          case rel => exact ⟨k + 1, z + 1, x, by omega, by go_num, by go_num, rfl, hz1, by rw [HS.out, List.length_append, HMZ.out]; rfl, by rw [HS.out]; simp⟩
          case measure => simp [intOf]; omega
      · have e : k = l := by omega
        subst e
        have hmz := HMZ.out
        have hmt := HMT.out
        rw [List.take_of_length_le (by rw [HL.out]; exact Nat.le_refl _)] at hmz hmt
        by_cases hz1 : z = 1
        · subst hz1
          obtain ⟨t', ht'⟩ := List.length_eq_one_iff.1 hmz
          obtain rfl : t' = t := by rw [ht'] at hmt; simpa using hmt
          have HQ := Lib.hid ht'
          obtain ⟨ht1, ht2⟩ := miss_F HNM.out (show t' ∈ miss m n by rw [ht']; simp)
          have hhas := Has_any w1 vn n (-t') HON.out.reads
          clear hmz hmt ht'
          by_cases htn : -t' ∈ n
          · have HTN := Lib.hid htn
            rw [decide_eq_true htn] at hhas
            clear htn
            go_wp2_with (first
              | (go_at_call 53; refine hhas.mono ?_; rintro e w' ⟨rfl, rfl⟩)
              | (go_at_call 59; refine (Without_any _ vn n (-t') HON.out.reads HLN.out).mono ?_; rintro e w4 ⟨v4, rfl, hb4, ho4, _⟩; have HB4 := Lib.hid hb4; have HO4 := Lib.hid ho4; clear hb4 ho4))
            refine bodyPost_ret (v := .tuple #[v4, .bool true, .int .i64 0]) (by simp [results, Try.results32, go_sem]) rfl ⟨bt HB1.out (Nat.le_refl _) HB4.out, v4, _, true, by rw [HE.out], own_mono HO4.out HB1.out.size, .inl ⟨HE.out, t', HQ.out, HTN.out, rfl, rfl⟩⟩
          · have HTN := Lib.hid htn
            rw [decide_eq_false htn] at hhas
            clear htn
            go_wp2_with (first
              | (go_at_call 53; refine hhas.mono ?_; rintro e w' ⟨rfl, rfl⟩))
            refine bodyPost_ret (v := .tuple #[.slice none 0 0, .bool false, .int .i64 0]) (by simp [results, Try.results32, go_sem]) rfl (str_no HB1.out ?_ (by rw [HE.out]))
            rintro ⟨_, t2, e, hn'⟩
            rw [HQ.out] at e; cases e; exact HTN.out hn'
        · have HQ := Lib.hid hmz
          have HZ := Lib.hid hz1
          have hq1 : ((z : Int) == 1) = false := by simpa using fun e => hz1 (by omega)
          have hq2 : ((z : Int) != 1) = true := by simpa using fun e => hz1 (by omega)
          clear hmz hmt hz1
          go_wp2
          refine bodyPost_ret (v := .tuple #[.slice none 0 0, .bool false, .int .i64 0]) (by simp [results, Try.results32, go_sem]) rfl (str_no HB1.out ?_ (by rw [HE.out]))
          rintro ⟨_, t2, e, _⟩
          exact HZ.out (by rw [← HQ.out, e]; rfl)
  · have hg := pair_bad hc hE
    have HE := Lib.hid hE
    have q1 : (pairE a b != 0) = true := by simpa using hE
    have q2 : (pairE a b == 0) = false := by simpa using hE
    generalize hx : pairE a b = x at hg q1 q2
    have HX := Lib.hid hx
    clear h h' hmn hc hE hx
    go_enter Try.func32, Try.ntmps32
    go_wp2_with (go_at_call 56; refine hg.mono ?_; rintro e w1 ⟨rfl, hb1⟩)
    refine bodyPost_ret (v := .tuple #[.slice none 0 0, .bool false, .int .i64 x]) (by simp [results, Try.results32, go_sem]) rfl (str_no hb1 (fun h => HE.out h.1) (by rw [HX.out]))

end Go.Proofs.Ytcppmjgglcobcaa

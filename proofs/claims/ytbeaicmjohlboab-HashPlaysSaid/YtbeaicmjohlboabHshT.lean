/- Hash: HashPlays: the statement's own among, sameAnds and step. -/
import Derived.Test.YtbeaicmjohlboabHshS
import Derived.Test.YtbeaicmjohlboabHshD
import Derived.Test.YtbeaicmjohlboabSame3
namespace Go.Proofs.Ytbeaicmjohlboab
open Go.RowKit Go.Maps

set_option maxRecDepth 100000 in
theorem among_any (_w : World) (x : Int) (_hx : I64 x) : ∃ r : Int, (r = 0 ∨ r = 1 ∨ r = 2 ∨ r = 3 ∨ r = 4 ∨ r = 5) ∧ ∀ wz, Calls Try.prog 34 #[.int .i64 x, .int .i64 6] wz fun e w' => e = .returned (.int .i64 r) ∧ w' = wz := by
  obtain ⟨m, hm⟩ : ∃ m, x.tmod 6 = m := ⟨_, rfl⟩
  have h1 : -5 ≤ m ∧ m ≤ 5 := by
    rcases Int.le_total 0 x with h | h
    · rw [Int.tmod_eq_emod_of_nonneg h] at hm; omega
    · have : x.tmod 6 = -((-x) % 6) := by rw [← Int.neg_neg x, Int.neg_tmod, Int.tmod_eq_emod_of_nonneg (by omega), Int.neg_neg]
      omega
  have e1 : IntKind.i64.wrap m = m := by simp [IntKind.wrap, IntKind.bits, IntKind.signed]; omega
  have e2 : IntKind.i64.wrap (m + 6) = m + 6 := by simp [IntKind.wrap, IntKind.bits, IntKind.signed]; omega
  obtain ⟨r, hr⟩ : ∃ r, (m + 6).tmod 6 = r := ⟨_, rfl⟩
  have h2 : 0 ≤ r ∧ r ≤ 5 := by rw [Int.tmod_eq_emod_of_nonneg (by omega)] at hr; omega
  have e3 : IntKind.i64.wrap r = r := by simp [IntKind.wrap, IntKind.bits, IntKind.signed]; omega
  refine ⟨r, by omega, fun wz => ?_⟩
  clear h1 h2
  go_enter Try.func34, Try.ntmps34
  go_wp2
  go_ret
  exact ⟨rfl, rfl⟩

theorem fourAct {w : World} {g : Nat} {t : TypeId} {a b c d : Value} (h : Blk w g t #[a, b, c, d]) : w.cell? ⟨g, 0, none⟩ = some a ∧ w.cell? ⟨g, 1, none⟩ = some b ∧ w.cell? ⟨g, 2, none⟩ = some c ∧ w.cell? ⟨g, 3, none⟩ = some d := ⟨by rw [h.cell]; rfl, by rw [h.cell]; rfl, by rw [h.cell]; rfl, by rw [h.cell]; rfl⟩
def Two (B : Nat) (w : World) (bx cx : Nat) (b : Bd) : Prop := ∃ F G, HB w bx b F ∧ HR w cx b G ∧ (∀ k, F k → ¬ G k) ∧ (∀ k, F k → B ≤ k) ∧ ∀ k, G k → B ≤ k
section
variable {w w2 : World} {bx cx B : Nat} {b b1 : Bd} {F G : Nat → Prop}
theorem Two.below (t : Two B w bx cx b) (hb : Below w.heap.size w w2) : Two B w2 bx cx b := by
  obtain ⟨F, G, h, r, a, l1, l2⟩ := t
  exact ⟨F, G, h.below hb, r.below hb, a, l1, l2⟩
theorem two_first (_h : HB w bx b F) (r : HR w cx b G) (ap : ∀ k, F k → ¬ G k) (d : Did w w2 bx F b1) : ∃ F1, HB w2 bx b1 F1 ∧ HR w2 cx b G ∧ (∀ k, F1 k → ¬ G k) ∧ But F w w2 ∧ ∀ k, F1 k → F k ∨ w.heap.size ≤ k := by
  obtain ⟨F1, h1, h2, h3⟩ := d
  exact ⟨F1, h1, r.but h2 (fun k hg hf => ap k hf hg), fun k hf hg => by
    rcases h3 k hf with q | q
    · exact ap k q hg
    · have := r.lt hg; omega, h2, h3⟩
theorem two_second (h : HB w bx b1 F) (_r : HR w cx b G) (ap : ∀ k, F k → ¬ G k) (d : DidR w w2 cx G b1) : ∃ G1, HB w2 bx b1 F ∧ HR w2 cx b1 G1 ∧ (∀ k, F k → ¬ G1 k) ∧ But G w w2 ∧ ∀ k, G1 k → G k ∨ w.heap.size ≤ k := by
  obtain ⟨G1, h1, h2, h3⟩ := d
  exact ⟨G1, h.but h2 (fun k hf hg => ap k hf hg), h1, fun k hf hg => by
    rcases h3 k hg with q | q
    · exact ap k hf q
    · have := h.lt hf; omega, h2, h3⟩
end

set_option maxHeartbeats 8000000 in
set_option maxRecDepth 100000 in
theorem stepH_any (w : World) (B bx cx : Nat) (b : Bd) (k s x y : Int) (hk : I64 k) (hs : I64 s) (hx : I64 x) (hy : I64 y) (t : Two B w bx cx b) (hB : B ≤ w.heap.size) :
    Calls Try.prog 11 #[.pointer (some ⟨bx, 0, none⟩), .pointer (some ⟨cx, 0, none⟩), .agg #[.int .i64 k, .int .i64 s, .int .i64 x, .int .i64 y]] w fun e w' => e = .returned (.bool true) ∧ Below B w w' ∧ ∃ b', Two B w' bx cx b' := by
  obtain ⟨F, G, h, r, ap, lf, lg⟩ := t
  obtain ⟨q, hq, ham⟩ := among_any w k hk
  have HAM := Lib.hid ham
  have HB1 : Hid (Below w.heap.size w (w.alloc (.cells #[.int .i64 k, .int .i64 s, .int .i64 x, .int .i64 y] 35))) := Lib.hid ((Below.refl _ _).alloc (Nat.le_refl _) _)
  have HBX : Hid (Blk (w.alloc (.cells #[.int .i64 k, .int .i64 s, .int .i64 x, .int .i64 y] 35)) w.heap.size 35 #[.int .i64 k, .int .i64 s, .int .i64 x, .int .i64 y]) := Lib.hid (Blk.new w _ _)
  have HH := Lib.hid (h.below HB1.out)
  have HRR := Lib.hid (r.below HB1.out)
  have HAP := Lib.hid ap
  have HLOW := Lib.hid (And.intro lf lg)
  have HNF : Hid (¬ F w.heap.size) := Lib.hid (fun hf => by have := h.lt hf; omega)
  have HBB := Lib.hid hB
  have c0 := HBX.out.cell 0
  have c1 := HBX.out.cell 1
  have c2 := HBX.out.cell 2
  have c3 := HBX.out.cell 3
  simp only [List.getElem?_toArray, List.getElem?_cons_zero, List.getElem?_cons_succ] at c0 c1 c2 c3
  obtain ⟨W1, hW1⟩ : ∃ W1, w.alloc (.cells #[.int .i64 k, .int .i64 s, .int .i64 x, .int .i64 y] 35) = W1 := ⟨_, rfl⟩
  rw [hW1] at HB1 HBX HH HRR c0 c1 c2 c3
  have HW1 := Lib.hid hW1
  have HS := Lib.hid hs
  have HX := Lib.hid hx
  have HY := Lib.hid hy
  clear h r ap lf lg ham hW1 hB hk hs hx hy
  rcases hq with rfl | rfl | rfl | rfl | rfl | rfl
  · go_enter Try.func11, Try.ntmps11
    go_upto_region 2 with (fail)
    rw [HW1.out]
    go_wp2_with (first | (go_at_call 34; refine (HAM.out _).mono ?_; rintro e w9 ⟨rfl, hw9⟩; rw [hw9]; clear hw9 w9) | (go_at_call 33; refine (hAnd_any _ bx b F x y HH.out HX.out HY.out).mono ?_; rintro e w2 ⟨rfl, hd⟩; obtain ⟨F1, h1, r1, ap1, bu1, f1⟩ := two_first HH.out HRR.out HAP.out hd; have H1 := Lib.hid h1; have R1 := Lib.hid r1; have A1 := Lib.hid ap1; have U1 := Lib.hid (And.intro bu1 f1); clear h1 r1 ap1 bu1 f1 hd c0 c1 c2 c3; obtain ⟨c0, c1, c2, c3⟩ := fourAct (U1.out.1.blk HBX.out HNF.out)) | (go_at_call 35; refine (rAndH_any _ cx b G x y R1.out).mono ?_; rintro e w3 ⟨rfl, hd⟩; obtain ⟨G1, h2, r2, ap2, bu2, f2⟩ := two_second H1.out R1.out A1.out hd; have H2 := Lib.hid h2; have R2 := Lib.hid r2; have A2 := Lib.hid ap2; have U2 := Lib.hid (And.intro bu2 f2); clear h2 r2 ap2 bu2 f2 hd c0 c1 c2 c3))
    go_ret
    refine ⟨by simp, ?_, _, F1, G1, H2.out, R2.out, A2.out, fun k hk => ?_, fun k hk => ?_⟩
    · have hs1 : B ≤ W1.heap.size := Nat.le_trans HBB.out HB1.out.size
      exact ((HB1.out.mono HBB.out).trans (U1.out.1.below hs1 HLOW.out.1)).trans (U2.out.1.below (Nat.le_trans hs1 U1.out.1.size) HLOW.out.2)
    · rcases U1.out.2 k hk with q | q
      · exact HLOW.out.1 k q
      · exact Nat.le_trans HBB.out (Nat.le_trans HB1.out.size q)
    · rcases U2.out.2 k hk with q | q
      · exact HLOW.out.2 k q
      · exact Nat.le_trans HBB.out (Nat.le_trans HB1.out.size (Nat.le_trans U1.out.1.size q))
  · go_enter Try.func11, Try.ntmps11
    go_upto_region 2 with (fail)
    rw [HW1.out]
    go_wp2_with (first | (go_at_call 34; refine (HAM.out _).mono ?_; rintro e w9 ⟨rfl, hw9⟩; rw [hw9]; clear hw9 w9) | (go_at_call 29; refine (hOr_any _ bx b F x y HH.out HX.out HY.out).mono ?_; rintro e w2 ⟨rfl, hd⟩; obtain ⟨F1, h1, r1, ap1, bu1, f1⟩ := two_first HH.out HRR.out HAP.out hd; have H1 := Lib.hid h1; have R1 := Lib.hid r1; have A1 := Lib.hid ap1; have U1 := Lib.hid (And.intro bu1 f1); clear h1 r1 ap1 bu1 f1 hd c0 c1 c2 c3; obtain ⟨c0, c1, c2, c3⟩ := fourAct (U1.out.1.blk HBX.out HNF.out)) | (go_at_call 36; refine (rOrH_any _ cx b G x y R1.out).mono ?_; rintro e w3 ⟨rfl, hd⟩; obtain ⟨G1, h2, r2, ap2, bu2, f2⟩ := two_second H1.out R1.out A1.out hd; have H2 := Lib.hid h2; have R2 := Lib.hid r2; have A2 := Lib.hid ap2; have U2 := Lib.hid (And.intro bu2 f2); clear h2 r2 ap2 bu2 f2 hd c0 c1 c2 c3))
    go_ret
    refine ⟨by simp, ?_, _, F1, G1, H2.out, R2.out, A2.out, fun k hk => ?_, fun k hk => ?_⟩
    · have hs1 : B ≤ W1.heap.size := Nat.le_trans HBB.out HB1.out.size
      exact ((HB1.out.mono HBB.out).trans (U1.out.1.below hs1 HLOW.out.1)).trans (U2.out.1.below (Nat.le_trans hs1 U1.out.1.size) HLOW.out.2)
    · rcases U1.out.2 k hk with q | q
      · exact HLOW.out.1 k q
      · exact Nat.le_trans HBB.out (Nat.le_trans HB1.out.size q)
    · rcases U2.out.2 k hk with q | q
      · exact HLOW.out.2 k q
      · exact Nat.le_trans HBB.out (Nat.le_trans HB1.out.size (Nat.le_trans U1.out.1.size q))
  · go_enter Try.func11, Try.ntmps11
    go_upto_region 2 with (fail)
    rw [HW1.out]
    go_wp2_with (first | (go_at_call 34; refine (HAM.out _).mono ?_; rintro e w9 ⟨rfl, hw9⟩; rw [hw9]; clear hw9 w9) | (go_at_call 30; refine (hXor_any _ bx b F x y HH.out HX.out HY.out).mono ?_; rintro e w2 ⟨rfl, hd⟩; obtain ⟨F1, h1, r1, ap1, bu1, f1⟩ := two_first HH.out HRR.out HAP.out hd; have H1 := Lib.hid h1; have R1 := Lib.hid r1; have A1 := Lib.hid ap1; have U1 := Lib.hid (And.intro bu1 f1); clear h1 r1 ap1 bu1 f1 hd c0 c1 c2 c3; obtain ⟨c0, c1, c2, c3⟩ := fourAct (U1.out.1.blk HBX.out HNF.out)) | (go_at_call 37; refine (rXorH_any _ cx b G x y R1.out).mono ?_; rintro e w3 ⟨rfl, hd⟩; obtain ⟨G1, h2, r2, ap2, bu2, f2⟩ := two_second H1.out R1.out A1.out hd; have H2 := Lib.hid h2; have R2 := Lib.hid r2; have A2 := Lib.hid ap2; have U2 := Lib.hid (And.intro bu2 f2); clear h2 r2 ap2 bu2 f2 hd c0 c1 c2 c3))
    go_ret
    refine ⟨by simp, ?_, _, F1, G1, H2.out, R2.out, A2.out, fun k hk => ?_, fun k hk => ?_⟩
    · have hs1 : B ≤ W1.heap.size := Nat.le_trans HBB.out HB1.out.size
      exact ((HB1.out.mono HBB.out).trans (U1.out.1.below hs1 HLOW.out.1)).trans (U2.out.1.below (Nat.le_trans hs1 U1.out.1.size) HLOW.out.2)
    · rcases U1.out.2 k hk with q | q
      · exact HLOW.out.1 k q
      · exact Nat.le_trans HBB.out (Nat.le_trans HB1.out.size q)
    · rcases U2.out.2 k hk with q | q
      · exact HLOW.out.2 k q
      · exact Nat.le_trans HBB.out (Nat.le_trans HB1.out.size (Nat.le_trans U1.out.1.size q))
  · go_enter Try.func11, Try.ntmps11
    go_upto_region 2 with (fail)
    rw [HW1.out]
    go_wp2_with (first | (go_at_call 34; refine (HAM.out _).mono ?_; rintro e w9 ⟨rfl, hw9⟩; rw [hw9]; clear hw9 w9) | (go_at_call 31; refine (hMux_any _ bx b F s x y HH.out HS.out HX.out HY.out).mono ?_; rintro e w2 ⟨rfl, hd⟩; obtain ⟨F1, h1, r1, ap1, bu1, f1⟩ := two_first HH.out HRR.out HAP.out hd; have H1 := Lib.hid h1; have R1 := Lib.hid r1; have A1 := Lib.hid ap1; have U1 := Lib.hid (And.intro bu1 f1); clear h1 r1 ap1 bu1 f1 hd c0 c1 c2 c3; obtain ⟨c0, c1, c2, c3⟩ := fourAct (U1.out.1.blk HBX.out HNF.out)) | (go_at_call 38; refine (rMuxH_any _ cx b G s x y R1.out).mono ?_; rintro e w3 ⟨rfl, hd⟩; obtain ⟨G1, h2, r2, ap2, bu2, f2⟩ := two_second H1.out R1.out A1.out hd; have H2 := Lib.hid h2; have R2 := Lib.hid r2; have A2 := Lib.hid ap2; have U2 := Lib.hid (And.intro bu2 f2); clear h2 r2 ap2 bu2 f2 hd c0 c1 c2 c3))
    go_ret
    refine ⟨by simp, ?_, _, F1, G1, H2.out, R2.out, A2.out, fun k hk => ?_, fun k hk => ?_⟩
    · have hs1 : B ≤ W1.heap.size := Nat.le_trans HBB.out HB1.out.size
      exact ((HB1.out.mono HBB.out).trans (U1.out.1.below hs1 HLOW.out.1)).trans (U2.out.1.below (Nat.le_trans hs1 U1.out.1.size) HLOW.out.2)
    · rcases U1.out.2 k hk with q | q
      · exact HLOW.out.1 k q
      · exact Nat.le_trans HBB.out (Nat.le_trans HB1.out.size q)
    · rcases U2.out.2 k hk with q | q
      · exact HLOW.out.2 k q
      · exact Nat.le_trans HBB.out (Nat.le_trans HB1.out.size (Nat.le_trans U1.out.1.size q))
  · go_enter Try.func11, Try.ntmps11
    go_upto_region 2 with (fail)
    rw [HW1.out]
    go_wp2_with (first | (go_at_call 34; refine (HAM.out _).mono ?_; rintro e w9 ⟨rfl, hw9⟩; rw [hw9]; clear hw9 w9) | (go_at_call 39; refine (hInput_any _ bx b F x HH.out).mono ?_; rintro e w2 ⟨rfl, hw2⟩; rw [hw2]; clear hw2 w2) | (go_at_call 40; refine (rInput_any _ cx b G x HRR.out).mono ?_; rintro e w3 ⟨rfl, hw3⟩; rw [hw3]; clear hw3 w3))
    go_ret
    exact ⟨by simp, HB1.out.mono HBB.out, _, F, G, HH.out, HRR.out, HAP.out, HLOW.out.1, HLOW.out.2⟩
  · go_enter Try.func11, Try.ntmps11
    go_upto_region 2 with (fail)
    rw [HW1.out]
    go_wp2_with (first | (go_at_call 34; refine (HAM.out _).mono ?_; rintro e w9 ⟨rfl, hw9⟩; rw [hw9]; clear hw9 w9) | (go_at_call 41; refine (hLatch_any _ bx b F x HH.out).mono ?_; rintro e w2 ⟨rfl, hw2⟩; rw [hw2]; clear hw2 w2) | (go_at_call 42; refine (rLatch_any _ cx b G x HRR.out).mono ?_; rintro e w3 ⟨rfl, hw3⟩; rw [hw3]; clear hw3 w3))
    go_ret
    exact ⟨by simp, HB1.out.mono HBB.out, _, F, G, HH.out, HRR.out, HAP.out, HLOW.out.1, HLOW.out.2⟩
end Go.Proofs.Ytbeaicmjohlboab

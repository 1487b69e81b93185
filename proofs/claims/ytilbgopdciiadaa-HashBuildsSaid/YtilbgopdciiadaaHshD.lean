/- Hash: the statements' own lit and works. -/
import Derived.Test.YtilbgopdciiadaaHshB
import Derived.Test.YtilbgopdciiadaaClone
namespace Go.Proofs.Ytilbgopdciiadaa
open Go.RowKit Go.Maps

theorem xor_oneH (n : Nat) : n ^^^ 1 = if n % 2 = 0 then n + 1 else n - 1 := by
  have h1 : (n ^^^ 1) / 2 = n / 2 ^^^ 1 / 2 := Nat.xor_div_two
  have h2 : (n ^^^ 1) % 2 = n % 2 ^^^ 1 % 2 := Nat.xor_mod_two_pow (n := 1)
  simp at h1
  rcases Nat.mod_two_eq_zero_or_one n with h | h <;> rw [h] at h2
  · have h3 : (0 ^^^ 1 % 2) = 1 := rfl
    rw [h3] at h2; rw [if_pos h]; omega
  · have h3 : (1 ^^^ 1 % 2) = 0 := rfl
    rw [h3] at h2; rw [if_neg (by omega)]; omega
theorem xor_neg {x : Int} (h : I64 x) : bits .xor .i64 x 1 = neg x := by
  unfold I64 at h
  have g1 : (BitVec.ofInt 64 x).toNat = (x % 18446744073709551616).toNat := by rw [BitVec.toNat_ofInt]; rfl
  have g2 : (BitVec.ofInt 64 (1 : Int)).toNat = 1 := by decide
  show IntKind.i64.wrap ((BitVec.ofInt 64 x ^^^ BitVec.ofInt 64 (1 : Int)).toNat : Int) = _
  rw [BitVec.toNat_xor, g1, g2, xor_oneH]
  unfold neg
  by_cases h2 : x % 2 = 0
  · rw [if_pos (by omega), if_pos h2]
    simp [IntKind.wrap, IntKind.bits, IntKind.signed]; omega
  · rw [if_neg (by omega), if_neg h2]
    simp [IntKind.wrap, IntKind.bits, IntKind.signed]; omega
theorem neg_64 {x : Int} (h : I64 x) : I64 (neg x) := by unfold I64 neg at *; split <;> omega
theorem HB.cells {w : World} {bx : Nat} {b : Bd} {F : Nat → Prop} (h : HB w bx b F) : ∃ m A c, Blk w bx 136 #[.int .i64 b.i, .int .i64 b.l, .slice A b.g.length c, .map (some m)] ∧ RowE 3 encT w (.slice A b.g.length c) b.tris := by
  obtain ⟨m, gv, D, h1, rfl⟩ := h
  obtain ⟨A, c, e⟩ := own_slice_k h1.row
  subst e
  refine ⟨m, A, c, h1.box, own_rowe (t := 80) (B := 0) lenT ?_⟩
  rw [tris_len]
  exact h1.row
theorem And_rng {b : Bd} (_hb : b.Ok) {r : (Int × Int) × Bd} (h : AnyS b r) : 0 ≤ r.1.1 ∧ r.1.1 ≤ 32769 ∧ 0 ≤ r.1.2 ∧ r.1.2 ≤ 5 := by
  have := h.ok.last
  rcases h.err with ⟨e1, e2⟩ | ⟨e1, e2, _⟩ | ⟨e1, e2, _⟩
  · rw [has_iff] at e2
    omega
  · omega
  · omega
set_option maxHeartbeats 4000000 in
set_option maxRecDepth 100000 in
theorem hAnd_any (w : World) (bx : Nat) (b : Bd) (F : Nat → Prop) (x y : Int) (h : HB w bx b F) (hx : I64 x) (hy : I64 y) :
    Calls Try.prog 46 #[.pointer (some ⟨bx, 0, none⟩), .int .i64 x, .int .i64 y] w fun e w' => e = .returned (.tuple #[.int .i64 (b.And x y).1.1, .int .i64 (b.And x y).1.2]) ∧ Did w w' bx F (b.And x y).2 := by
  have HH := Lib.hid h
  have hb1 : Below w.heap.size w (w.alloc (.cells #[.int .i64 x, .int .i64 y] 3)) := (Below.refl _ _).alloc (Nat.le_refl _) _
  have hnum : Nums (w.alloc (.cells #[.int .i64 x, .int .i64 y] 3)) w.heap.size [x, y] := Blk.new w _ _
  have hhas := has_any _ bx b F _ [x, y] (h.below hb1) (nums_row hnum (by simp [maxLen])) (fun l hl => by simp at hl; rcases hl with rfl | rfl; exact hx; exact hy)
  have hall : ([x, y].all b.has) = (b.has x && b.has y) := by simp
  rw [hall] at hhas
  have HB1 := Lib.hid hb1
  have HGATE := Lib.hid (fun (wx : World) (u v : Int) (hw : Below w.heap.size w wx) (h1 : 2 ≤ v) (h2 : v < u) (h3 : u / 2 ≠ v / 2) (hu : b.has u = true) => gate_any wx bx b F u v (HH.out.below hw) h1 h2 h3 hu)
  have hbld : ∀ (u v : Int) (wz : World), (Instr.build 149 #[(0, .int .i64 u), (1, .int .i64 v)]).run Try.prog wz = .ok (.agg #[.int .i64 u, .int .i64 v]) wz := fun u v wz => run_build wz _ _ _ (by kernel_rfl)
  have HBLD := Lib.hid hbld
  by_cases hh : b.has x = true ∧ b.has y = true
  · have hA : b.And x y = b.and_ x y := by unfold Bd.And; rw [if_pos hh]
    rw [hA]
    rw [hh.1, hh.2] at hhas
    have HHAS := Lib.hid hhas
    have hX := has_max hh.1 hh.2
    have hx1 := has_iff.1 hh.1
    have hy1 := has_iff.1 hh.2
    have hlast := h.ok.last
    obtain ⟨X, hXe⟩ : ∃ X, max x y = X := ⟨_, rfl⟩
    obtain ⟨Y, hYe⟩ : ∃ Y, min x y = Y := ⟨_, rfl⟩
    rw [hXe] at hX
    have hYX : Y ≤ X := by omega
    have hY0 : 0 ≤ Y := by omega
    have hX1 : X ≤ 32769 := by omega
    have HA2 : Hid (b.and_ x y = b.and2 X Y) := Lib.hid (by unfold Bd.and_; rw [hXe, hYe])
    rw [HA2.out]
    have HX := Lib.hid hX
    have hxor := xor_neg (x := X) (by unfold I64; omega)
    have hng : neg X = if X % 2 = 0 then X + 1 else X - 1 := rfl
    clear hh hA hhas hX hx1 hy1 hlast hall hb1 hnum hbld h
    by_cases hy0 : Y = 0
    · have HR : Hid (b.and2 X Y = ((0, 0), b)) := Lib.hid (by unfold Bd.and2; rw [if_pos (.inl hy0)])
      rw [HR.out]
      simp only
      rw [hy0] at hYe
      clear hxor hng
      go_enter Try.func46, Try.ntmps46
      go_wp2_with (go_at_call 98; refine HHAS.out.mono ?_; rintro e w2 ⟨rfl, hb2⟩; have HB2 := Lib.hid (bt HB1.out (Nat.le_refl _) hb2); clear hb2)
      go_ret2
      exact ⟨rfl, Did.of_below HH.out HB2.out⟩
    · have hb0 : (Y == 0) = false := by simpa using hy0
      obtain ⟨z, hz⟩ : ∃ z, neg X = z := ⟨_, rfl⟩
      rw [hz] at hxor hng
      by_cases hyz : Y = z
      · have hsplit : X = Y + 1 ∧ Y % 2 = 0 := by
          by_cases e : X % 2 = 0
          · rw [if_pos e] at hng; omega
          · rw [if_neg e] at hng; omega
        have HR : Hid (b.and2 X Y = ((0, 0), b)) := Lib.hid (by unfold Bd.and2; rw [if_pos (.inr hsplit)])
        rw [HR.out]
        simp only
        rw [← hyz] at hxor
        clear hng hsplit hz hyz hYX hY0 hy0
        go_enter Try.func46, Try.ntmps46
        go_wp2_with (go_at_call 98; refine HHAS.out.mono ?_; rintro e w2 ⟨rfl, hb2⟩; have HB2 := Lib.hid (bt HB1.out (Nat.le_refl _) hb2); clear hb2)
        go_ret2
        exact ⟨rfl, Did.of_below HH.out HB2.out⟩
      · have hbz : (Y == z) = false := by simpa using hyz
        have hno : ¬ (Y = 0 ∨ (X = Y + 1 ∧ Y % 2 = 0)) := by
          rintro (e | ⟨e1, e2⟩)
          · exact hy0 e
          · rw [if_neg (by omega)] at hng
            omega
        by_cases hy1 : Y = 1
        · have HR : Hid (b.and2 X Y = ((X, 0), b)) := Lib.hid (by unfold Bd.and2; rw [if_neg hno, if_pos (.inl hy1)])
          rw [HR.out]
          simp only
          rw [hy1] at hYe hbz hb0
          clear hng hno hz hyz hYX hY0 hy0
          go_enter Try.func46, Try.ntmps46
          go_wp2_with (go_at_call 98; refine HHAS.out.mono ?_; rintro e w2 ⟨rfl, hb2⟩; have HB2 := Lib.hid (bt HB1.out (Nat.le_refl _) hb2); clear hb2)
          go_ret2
          exact ⟨rfl, Did.of_below HH.out HB2.out⟩
        · have hb1' : (Y == 1) = false := by simpa using hy1
          by_cases hyx : Y = X
          · have HR : Hid (b.and2 X Y = ((X, 0), b)) := Lib.hid (by unfold Bd.and2; rw [if_neg hno, if_pos (.inr hyx.symm)])
            rw [HR.out]
            simp only
            rw [hyx] at hYe hbz hb0 hb1'
            clear hng hno hz hyz hYX hY0 hy0 hyx hy1
            go_enter Try.func46, Try.ntmps46
            go_wp2_with (go_at_call 98; refine HHAS.out.mono ?_; rintro e w2 ⟨rfl, hb2⟩; have HB2 := Lib.hid (bt HB1.out (Nat.le_refl _) hb2); clear hb2)
            go_ret2
            exact ⟨rfl, Did.of_below HH.out HB2.out⟩
          · have hbx : (Y == X) = false := by simpa using hyx
            have HR : Hid (b.and2 X Y = b.gate X Y) := Lib.hid (by unfold Bd.and2; rw [if_neg hno, if_neg (by rintro (e | e); exact hy1 e; exact hyx e.symm)])
            rw [HR.out]
            have HG := Lib.hid (fun (wx : World) (hw : Below w.heap.size w wx) => HGATE.out wx X Y hw (by omega) (by omega) (by omega) HX.out)
            have hbd := fun wz => HBLD.out X Y wz
            clear hng hno hz hyz hYX hY0 hy0 hyx hy1
            go_enter Try.func46, Try.ntmps46
            go_wp2_with (first
              | (go_at_call 98; refine HHAS.out.mono ?_; rintro e w2 ⟨rfl, hb2⟩; have HB2 := Lib.hid (bt HB1.out (Nat.le_refl _) hb2); clear hb2)
              | (go_at_call 99; refine (HG.out _ HB2.out).mono ?_; rintro e w3 ⟨rfl, hd3⟩; have HD3 := Lib.hid hd3; clear hd3))
            go_ret2
            exact ⟨rfl, Did.pre HB2.out HD3.out⟩
  · have hA : b.And x y = ((0, 5), b) := by unfold Bd.And; rw [if_neg hh]
    rw [hA]
    have hf : (b.has x && b.has y) = false := by
      cases e1 : b.has x
      · rfl
      · cases e2 : b.has y
        · rfl
        · exact absurd ⟨e1, e2⟩ hh
    rw [hf] at hhas
    have HHAS := Lib.hid hhas
    simp only
    clear hh hA hhas hf hall hb1 hnum hbld h
    go_enter Try.func46, Try.ntmps46
    go_wp2_with (go_at_call 98; refine HHAS.out.mono ?_; rintro e w2 ⟨rfl, hb2⟩; have HB2 := Lib.hid (bt HB1.out (Nat.le_refl _) hb2); clear hb2)
    go_ret2
    exact ⟨rfl, Did.of_below HH.out HB2.out⟩

theorem negated_any (w : World) (l e0 : Int) (hl : I64 l) :
    Calls Try.prog 100 #[.int .i64 l, .int .i64 e0] w fun e w' => e = .returned (.tuple #[.int .i64 (if e0 = 0 then neg l else 0), .int .i64 e0]) ∧ w' = w := by
  have hx := xor_neg hl
  obtain ⟨z, hz⟩ : ∃ z, neg l = z := ⟨_, rfl⟩
  rw [hz] at hx ⊢
  clear hz
  by_cases h0 : e0 = 0
  · subst h0
    go_enter Try.func100, Try.ntmps100
    go_wp2
    go_ret2
    exact ⟨rfl, rfl⟩
  · rw [if_neg h0]
    have hq : (e0 != 0) = true := by simpa using h0
    go_enter Try.func100, Try.ntmps100
    go_wp2
    go_ret2
    exact ⟨rfl, rfl⟩
theorem negR_Or (b : Bd) (x y : Int) : negR (b.And (neg x) (neg y)) = b.Or x y := by
  unfold Bd.And Bd.Or
  rw [has_neg, has_neg]
  by_cases hh : b.has x = true ∧ b.has y = true
  · rw [if_pos hh, if_pos hh]; rfl
  · rw [if_neg hh, if_neg hh]; rfl

set_option maxHeartbeats 4000000 in
set_option maxRecDepth 100000 in
theorem hOr_any (w : World) (bx : Nat) (b : Bd) (F : Nat → Prop) (x y : Int) (h : HB w bx b F) (hx : I64 x) (hy : I64 y) :
    Calls Try.prog 48 #[.pointer (some ⟨bx, 0, none⟩), .int .i64 x, .int .i64 y] w fun e w' => e = .returned (.tuple #[.int .i64 (b.Or x y).1.1, .int .i64 (b.Or x y).1.2]) ∧ Did w w' bx F (b.Or x y).2 := by
  have hok := h.ok
  have HAND := Lib.hid (hAnd_any w bx b F (neg x) (neg y) h (neg_64 hx) (neg_64 hy))
  have hr := And_rng hok (And_any hok (neg x) (neg y))
  have e1 := xor_neg hx
  have e2 := xor_neg hy
  obtain ⟨nx, hnx⟩ : ∃ z, neg x = z := ⟨_, rfl⟩
  obtain ⟨ny, hny⟩ : ∃ z, neg y = z := ⟨_, rfl⟩
  have ho := negR_Or b x y
  rw [hnx, hny] at HAND hr ho
  rw [hnx] at e1
  rw [hny] at e2
  rw [← ho]
  obtain ⟨r, hre⟩ : ∃ r, b.And nx ny = r := ⟨_, rfl⟩
  rw [hre] at HAND hr ⊢
  obtain ⟨⟨r1, r2⟩, b'⟩ := r
  simp only at HAND hr
  have HNEG := Lib.hid (fun wx => negated_any wx r1 r2 (by unfold I64; omega))
  unfold negR
  simp only
  obtain ⟨z, hz⟩ : ∃ z, (if r2 = 0 then neg r1 else 0) = z := ⟨_, rfl⟩
  rw [hz] at HNEG ⊢
  clear hz hr hre ho hnx hny hok h hx hy
  go_enter Try.func48, Try.ntmps48
  go_wp2_with (first
    | (go_at_call 46; refine HAND.out.mono ?_; rintro e w2 ⟨rfl, hd⟩; have HD := Lib.hid hd; clear hd)
    | (go_at_call 100; refine (HNEG.out _).mono ?_; rintro e w3 ⟨rfl, hw3⟩; rw [hw3]; clear hw3 w3))
  go_ret2
  exact ⟨rfl, HD.out⟩

set_option maxHeartbeats 4000000 in
set_option maxRecDepth 100000 in
theorem hMux_any (w : World) (bx : Nat) (b : Bd) (F : Nat → Prop) (s x y : Int) (h : HB w bx b F) (hs : I64 s) (hx : I64 x) (hy : I64 y) :
    Calls Try.prog 101 #[.pointer (some ⟨bx, 0, none⟩), .int .i64 s, .int .i64 x, .int .i64 y] w fun e w' => e = .returned (.tuple #[.int .i64 (b.Mux s x y).1.1, .int .i64 (b.Mux s x y).1.2]) ∧ Did w w' bx F (b.Mux s x y).2 := by
  have HH := Lib.hid h
  have hok := h.ok
  have hb1 : Below w.heap.size w (w.alloc (.cells #[.int .i64 s, .int .i64 x, .int .i64 y] 3)) := (Below.refl _ _).alloc (Nat.le_refl _) _
  have hnum : Nums (w.alloc (.cells #[.int .i64 s, .int .i64 x, .int .i64 y] 3)) w.heap.size [s, x, y] := Blk.new w _ _
  have hhas := has_any _ bx b F _ [s, x, y] (h.below hb1) (nums_row hnum (by simp [maxLen])) (fun l hl => by simp at hl; rcases hl with rfl | rfl | rfl; exact hs; exact hx; exact hy)
  have HB1 := Lib.hid hb1
  have HA1 := Lib.hid (fun (wx : World) (hw : Below w.heap.size w wx) => hAnd_any wx bx b F s x (HH.out.below hw) hs hx)
  have e1 := xor_neg hs
  have hns := neg_64 hs
  by_cases hh : b.has s = true ∧ b.has x = true ∧ b.has y = true
  · have hall : ([s, x, y].all b.has) = true := by simp [hh]
    rw [hall] at hhas
    have HHAS := Lib.hid hhas
    have k1 := and_spec hok hh.1 hh.2.1
    have hA1 : b.And s x = b.and_ s x := by unfold Bd.And; rw [if_pos ⟨hh.1, hh.2.1⟩]
    have hM : b.Mux s x y = andThen (b.and_ s x) fun u b1 => andThen (b1.and_ (neg s) y) fun v b2 => b2.or_ u v := by unfold Bd.Mux; rw [if_pos hh]
    rw [hM]
    rw [hA1] at HA1
    obtain ⟨r1, hr1⟩ : ∃ r, b.and_ s x = r := ⟨_, rfl⟩
    rw [hr1] at k1 HA1 ⊢
    have hrg := And_rng hok k1.any
    have h1s : r1.2.has (neg s) = true := by rw [has_neg]; exact k1.has hh.1
    have h1y : r1.2.has y = true := k1.has hh.2.2
    have k2 := and_spec k1.ok h1s h1y
    have hA2 : r1.2.And (neg s) y = r1.2.and_ (neg s) y := by unfold Bd.And; rw [if_pos ⟨h1s, h1y⟩]
    have HA2 := Lib.hid (fun (wx : World) (F' : Nat → Prop) (hw : HB wx bx r1.2 F') => hAnd_any wx bx r1.2 F' (neg s) y hw hns hy)
    rw [hA2] at HA2
    obtain ⟨nz, hnz⟩ : ∃ z, neg s = z := ⟨_, rfl⟩
    rw [hnz] at HA2 e1 k2 ⊢
    obtain ⟨r2, hr2⟩ : ∃ r, r1.2.and_ nz y = r := ⟨_, rfl⟩
    rw [hr2] at k2 HA2
    have hrg2 := And_rng k1.ok k2.any
    have HO := Lib.hid (fun (wx : World) (F' : Nat → Prop) (hw : HB wx bx r2.2 F') => hOr_any wx bx r2.2 F' r1.1.1 r2.1.1 hw (by unfold I64; omega) (by unfold I64; omega))
    have HOR : Hid (r1.1.2 = 0 → r2.1.2 = 0 → r2.2.Or r1.1.1 r2.1.1 = r2.2.or_ r1.1.1 r2.1.1) := Lib.hid (fun q1 q2 => by
      have g1 : r1.2.has r1.1.1 = true := by rcases k1.err with ⟨_, q⟩ | ⟨q, _⟩; exact q; omega
      have g2 : r2.2.has r2.1.1 = true := by rcases k2.err with ⟨_, q⟩ | ⟨q, _⟩; exact q; omega
      unfold Bd.Or
      rw [if_pos ⟨k2.has g1, g2⟩])
    have HAT : Hid (r1.1.2 = 0 → andThen r1 (fun u b1 => andThen (b1.and_ nz y) fun v b2 => b2.or_ u v) = andThen r2 fun v b2 => b2.or_ r1.1.1 v) := Lib.hid (fun q => by
      show (if r1.1.2 = 0 then andThen (r1.2.and_ nz y) (fun v b2 => b2.or_ r1.1.1 v) else _) = _
      rw [if_pos q, hr2])
    have HAN : Hid (r1.1.2 ≠ 0 → andThen r1 (fun u b1 => andThen (b1.and_ nz y) fun v b2 => b2.or_ u v) = ((0, r1.1.2), r1.2)) := Lib.hid (fun q => by unfold andThen; rw [if_neg q])
    generalize andThen r1 (fun u b1 => andThen (b1.and_ nz y) fun v b2 => b2.or_ u v) = res at *
    obtain ⟨⟨u1, u2⟩, c1⟩ := r1
    obtain ⟨⟨v1, v2⟩, c2⟩ := r2
    simp only at HA1 HA2 HO HOR HAT HAN
    clear hh hall hhas hM hA1 hA2 hr1 hr2 k1 k2 hrg hrg2 h1s h1y hnz hns hok hb1 hnum h hs hx hy
    by_cases q1 : u2 = 0
    · subst q1
      rw [HAT.out rfl]
      by_cases q2 : v2 = 0
      · subst q2
        have HR : Hid (andThen ((v1, 0), c2) (fun v b2 => b2.or_ u1 v) = c2.Or u1 v1) := Lib.hid (by rw [HOR.out rfl rfl]; rfl)
        rw [HR.out]
        go_enter Try.func101, Try.ntmps101
        go_upto_region 2 with (go_at_call 98; refine HHAS.out.mono ?_; rintro e w2 ⟨rfl, hb2⟩; have HB2 := Lib.hid (bt HB1.out (Nat.le_refl _) hb2); clear hb2)
        go_upto_region 4 with (go_at_call 46; refine (HA1.out _ HB2.out).mono ?_; rintro e w3 ⟨rfl, hd3⟩; obtain ⟨F3, h3, hb3, hf3⟩ := Did.pre HB2.out hd3; have HB3 := Lib.hid h3; have HU3 := Lib.hid (And.intro hb3 hf3); clear h3 hb3 hf3)
        go_upto_region 7 with (go_at_call 46; refine (HA2.out _ _ HB3.out).mono ?_; rintro e w4 ⟨rfl, hd4⟩; obtain ⟨F4, h4, hb4, hf4⟩ := Did.step HU3.out.1 HU3.out.2 hd4; have HB4 := Lib.hid h4; have HU4 := Lib.hid (And.intro hb4 hf4); clear h4 hb4 hf4)
        go_wp2_with (go_at_call 48; refine (HO.out _ _ HB4.out).mono ?_; rintro e w5 ⟨rfl, hd5⟩; have HD5 := Lib.hid (Did.step HU4.out.1 HU4.out.2 hd5); clear hd5)
        go_ret2
        exact ⟨rfl, HD5.out⟩
      · have HR : Hid (andThen ((v1, v2), c2) (fun v b2 => b2.or_ u1 v) = ((0, v2), c2)) := Lib.hid (by unfold andThen; rw [if_neg q2])
        rw [HR.out]
        have hq : (v2 != 0) = true := by simpa using q2
        clear q2
        go_enter Try.func101, Try.ntmps101
        go_upto_region 2 with (go_at_call 98; refine HHAS.out.mono ?_; rintro e w2 ⟨rfl, hb2⟩; have HB2 := Lib.hid (bt HB1.out (Nat.le_refl _) hb2); clear hb2)
        go_upto_region 4 with (go_at_call 46; refine (HA1.out _ HB2.out).mono ?_; rintro e w3 ⟨rfl, hd3⟩; obtain ⟨F3, h3, hb3, hf3⟩ := Did.pre HB2.out hd3; have HB3 := Lib.hid h3; have HU3 := Lib.hid (And.intro hb3 hf3); clear h3 hb3 hf3)
        go_wp2_with (go_at_call 46; refine (HA2.out _ _ HB3.out).mono ?_; rintro e w4 ⟨rfl, hd4⟩; obtain ⟨F4, h4, hb4, hf4⟩ := Did.step HU3.out.1 HU3.out.2 hd4; have HB4 := Lib.hid h4; have HU4 := Lib.hid (And.intro hb4 hf4); clear h4 hb4 hf4)
        go_ret2
        exact ⟨rfl, F4, HB4.out, HU4.out.1, HU4.out.2⟩
    · rw [HAN.out q1]
      have hq : (u2 != 0) = true := by simpa using q1
      clear q1
      go_enter Try.func101, Try.ntmps101
      go_upto_region 2 with (go_at_call 98; refine HHAS.out.mono ?_; rintro e w2 ⟨rfl, hb2⟩; have HB2 := Lib.hid (bt HB1.out (Nat.le_refl _) hb2); clear hb2)
      go_wp2_with (go_at_call 46; refine (HA1.out _ HB2.out).mono ?_; rintro e w3 ⟨rfl, hd3⟩; obtain ⟨F3, h3, hb3, hf3⟩ := Did.pre HB2.out hd3; have HB3 := Lib.hid h3; have HU3 := Lib.hid (And.intro hb3 hf3); clear h3 hb3 hf3)
      go_ret2
      exact ⟨rfl, F3, HB3.out, HU3.out.1, HU3.out.2⟩
  · have hM : b.Mux s x y = ((0, 5), b) := by unfold Bd.Mux; rw [if_neg hh]
    rw [hM]
    have hall : ([s, x, y].all b.has) = false := by
      rw [List.all_eq_false]
      by_cases q1 : b.has s = true
      · by_cases q2 : b.has x = true
        · by_cases q3 : b.has y = true
          · exact absurd ⟨q1, q2, q3⟩ hh
          · exact ⟨y, by simp, q3⟩
        · exact ⟨x, by simp, q2⟩
      · exact ⟨s, by simp, q1⟩
    rw [hall] at hhas
    have HHAS := Lib.hid hhas
    simp only
    clear hh hM hall hhas hb1 hnum h e1 hns
    go_enter Try.func101, Try.ntmps101
    go_wp2_with (go_at_call 98; refine HHAS.out.mono ?_; rintro e w2 ⟨rfl, hb2⟩; have HB2 := Lib.hid (bt HB1.out (Nat.le_refl _) hb2); clear hb2)
    go_ret2
    exact ⟨rfl, Did.of_below HH.out HB2.out⟩

set_option maxHeartbeats 4000000 in
set_option maxRecDepth 100000 in
theorem hXor_any (w : World) (bx : Nat) (b : Bd) (F : Nat → Prop) (x y : Int) (h : HB w bx b F) (hx : I64 x) (hy : I64 y) :
    Calls Try.prog 47 #[.pointer (some ⟨bx, 0, none⟩), .int .i64 x, .int .i64 y] w fun e w' => e = .returned (.tuple #[.int .i64 (b.Xor x y).1.1, .int .i64 (b.Xor x y).1.2]) ∧ Did w w' bx F (b.Xor x y).2 := by
  have hok := h.ok
  have HMUX := Lib.hid (hMux_any w bx b F x y (neg y) h hx hy (neg_64 hy))
  have hr := And_rng hok (mux_any hok x y (neg y))
  have e2 := xor_neg hy
  obtain ⟨ny, hny⟩ : ∃ z, neg y = z := ⟨_, rfl⟩
  have ho := xor_mux hok x y
  rw [hny] at HMUX hr ho e2
  rw [← ho]
  obtain ⟨r, hre⟩ : ∃ r, b.Mux x y ny = r := ⟨_, rfl⟩
  rw [hre] at HMUX hr ⊢
  obtain ⟨⟨r1, r2⟩, b'⟩ := r
  simp only at HMUX hr
  have HNEG := Lib.hid (fun wx => negated_any wx r1 r2 (by unfold I64; omega))
  unfold negR
  simp only
  obtain ⟨z, hz⟩ : ∃ z, (if r2 = 0 then neg r1 else 0) = z := ⟨_, rfl⟩
  rw [hz] at HNEG ⊢
  clear hz hr hre ho hny hok h hx hy
  go_enter Try.func47, Try.ntmps47
  go_wp2_with (first
    | (go_at_call 101; refine HMUX.out.mono ?_; rintro e w2 ⟨rfl, hd⟩; have HD := Lib.hid hd; clear hd)
    | (go_at_call 100; refine (HNEG.out _).mono ?_; rintro e w3 ⟨rfl, hw3⟩; rw [hw3]; clear hw3 w3))
  go_ret2
  exact ⟨rfl, HD.out⟩

set_option maxRecDepth 100000 in
theorem hSize_any (w : World) (bx : Nat) (b : Bd) (F : Nat → Prop) (h : HB w bx b F) :
    Calls Try.prog 49 #[.pointer (some ⟨bx, 0, none⟩)] w fun e w' => e = .returned (.int .i64 b.g.length) ∧ w' = w := by
  obtain ⟨m, A, c, hb, _⟩ := h.cells
  have k2 := hb.cell 2
  simp only [List.getElem?_toArray, List.getElem?_cons_zero, List.getElem?_cons_succ] at k2
  generalize b.g.length = n at *
  clear hb h
  go_enter Try.func49, Try.ntmps49
  go_wp2
  go_ret
  exact ⟨rfl, rfl⟩

set_option maxHeartbeats 4000000 in
set_option maxRecDepth 100000 in
theorem hGates_any (w : World) (bx : Nat) (b : Bd) (F : Nat → Prop) (h : HB w bx b F) :
    Calls Try.prog 90 #[.pointer (some ⟨bx, 0, none⟩)] w fun e w' => Below w.heap.size w w' ∧ ∃ v, e = .returned v ∧ w'.ownsRow w.heap.size 80 3 v b.tris.length (b.tris.flatMap encT) := by
  obtain ⟨m, A, c, hb, hrow⟩ := h.cells
  have hl := h.ok.last
  have HCL := Lib.hid (CloneA_any w _ b.tris hrow (by rw [tris_len]; unfold Bd.last at hl; omega))
  have k2 := hb.cell 2
  simp only [List.getElem?_toArray, List.getElem?_cons_zero, List.getElem?_cons_succ] at k2
  generalize b.g.length = n at *
  clear hb h hrow hl
  go_enter Try.func90, Try.ntmps90
  go_wp2_with (go_at_call 136; refine HCL.out.mono ?_; rintro e w2 ⟨v, rfl, ho, hb2⟩; have HO := Lib.hid (And.intro hb2 ho); clear ho hb2)
  go_ret
  exact ⟨HO.out.1, _, rfl, HO.out.2⟩

def inE (n : Nat) (i : Int) : Int × Int := if 0 ≤ i ∧ i < (n : Int) then (2 * i + 2, 0) else (0, 5)
def laE (n m : Nat) (i : Int) : Int × Int := if 0 ≤ i ∧ i < (m : Int) then (2 * ((n : Int) + i) + 2, 0) else (0, 5)
set_option maxHeartbeats 2000000 in
set_option maxRecDepth 100000 in
theorem hInput_any (w : World) (bx : Nat) (b : Bd) (F : Nat → Prop) (i : Int) (h : HB w bx b F) :
    Calls Try.prog 85 #[.pointer (some ⟨bx, 0, none⟩), .int .i64 i] w fun e w' => e = .returned (.tuple #[.int .i64 (inE b.i i).1, .int .i64 (inE b.i i).2]) ∧ w' = w := by
  obtain ⟨m, A, c, hb, _⟩ := h.cells
  have hl := h.ok.last
  have hi : b.i ≤ 16384 := by unfold Bd.last at hl; omega
  have k0 := hb.cell 0
  simp only [List.getElem?_toArray, List.getElem?_cons_zero] at k0
  obtain ⟨n, hn⟩ : ∃ n, b.i = n := ⟨_, rfl⟩
  rw [hn] at k0 hi ⊢
  clear hb h hl hn
  by_cases h0 : i < 0
  · rw [show inE n i = (0, 5) by unfold inE; rw [if_neg (by omega)]]
    go_enter Try.func85, Try.ntmps85
    go_wp2
    go_ret2
    exact ⟨rfl, rfl⟩
  · by_cases h1 : (n : Int) ≤ i
    · rw [show inE n i = (0, 5) by unfold inE; rw [if_neg (by omega)]]
      go_enter Try.func85, Try.ntmps85
      go_wp2
      go_ret2
      exact ⟨rfl, rfl⟩
    · rw [show inE n i = (2 * i + 2, 0) by unfold inE; rw [if_pos (by omega)]]
      have e1 : IntKind.i64.wrap (2 * i) = 2 * i := by simp [IntKind.wrap, IntKind.bits, IntKind.signed]; omega
      have e2 : IntKind.i64.wrap (2 * i + 2) = 2 * i + 2 := by simp [IntKind.wrap, IntKind.bits, IntKind.signed]; omega
      go_enter Try.func85, Try.ntmps85
      go_wp2
      go_ret2
      exact ⟨rfl, rfl⟩
set_option maxHeartbeats 2000000 in
set_option maxRecDepth 100000 in
theorem hLatch_any (w : World) (bx : Nat) (b : Bd) (F : Nat → Prop) (i : Int) (h : HB w bx b F) :
    Calls Try.prog 86 #[.pointer (some ⟨bx, 0, none⟩), .int .i64 i] w fun e w' => e = .returned (.tuple #[.int .i64 (laE b.i b.l i).1, .int .i64 (laE b.i b.l i).2]) ∧ w' = w := by
  obtain ⟨m, A, c, hb, _⟩ := h.cells
  have hl := h.ok.last
  have hi : b.i + b.l ≤ 16384 := by unfold Bd.last at hl; omega
  have k0 := hb.cell 0
  have k1 := hb.cell 1
  simp only [List.getElem?_toArray, List.getElem?_cons_zero, List.getElem?_cons_succ] at k0 k1
  obtain ⟨n, hn⟩ : ∃ n, b.i = n := ⟨_, rfl⟩
  obtain ⟨k, hk⟩ : ∃ n, b.l = n := ⟨_, rfl⟩
  rw [hn] at k0 hi ⊢
  rw [hk] at k1 hi ⊢
  clear hb h hl hn hk
  by_cases h0 : i < 0
  · rw [show laE n k i = (0, 5) by unfold laE; rw [if_neg (by omega)]]
    go_enter Try.func86, Try.ntmps86
    go_wp2
    go_ret2
    exact ⟨rfl, rfl⟩
  · by_cases h1 : (k : Int) ≤ i
    · rw [show laE n k i = (0, 5) by unfold laE; rw [if_neg (by omega)]]
      go_enter Try.func86, Try.ntmps86
      go_wp2
      go_ret2
      exact ⟨rfl, rfl⟩
    · rw [show laE n k i = (2 * ((n : Int) + i) + 2, 0) by unfold laE; rw [if_pos (by omega)]]
      have e0 : IntKind.i64.wrap ((n : Int) + i) = (n : Int) + i := by simp [IntKind.wrap, IntKind.bits, IntKind.signed]; omega
      have e1 : IntKind.i64.wrap (2 * ((n : Int) + i)) = 2 * ((n : Int) + i) := by simp [IntKind.wrap, IntKind.bits, IntKind.signed]; omega
      have e2 : IntKind.i64.wrap (2 * ((n : Int) + i) + 2) = 2 * ((n : Int) + i) + 2 := by simp [IntKind.wrap, IntKind.bits, IntKind.signed]; omega
      go_enter Try.func86, Try.ntmps86
      go_wp2
      go_ret2
      exact ⟨rfl, rfl⟩

theorem isCount_any (w : World) (n : Int) : Calls Try.prog 84 #[.int .i64 n] w fun e w' => e = .returned (.bool (decide (0 ≤ n) && decide (n ≤ 16384))) ∧ w' = w := by
  by_cases h0 : 0 ≤ n
  · by_cases h1 : n ≤ 16384
    · rw [decide_eq_true h0, decide_eq_true h1]
      go_enter Try.func84, Try.ntmps84
      go_wp2
      go_ret
      exact ⟨rfl, rfl⟩
    · rw [decide_eq_true h0, decide_eq_false h1]
      go_enter Try.func84, Try.ntmps84
      go_wp2
      go_ret
      exact ⟨rfl, rfl⟩
  · rw [decide_eq_false h0]
    go_enter Try.func84, Try.ntmps84
    go_wp2
    go_ret
    exact ⟨by simp, rfl⟩
def newB (i l : Int) : Bool := (decide (0 ≤ i) && decide (i ≤ 16384)) && ((decide (0 ≤ l) && decide (l ≤ 16384)) && decide (i + l ≤ 16384))
theorem newB_iff {i l : Int} : newB i l = true ↔ (0 ≤ i ∧ i ≤ 16384) ∧ (0 ≤ l ∧ l ≤ 16384) ∧ i + l ≤ 16384 := by unfold newB; simp [and_assoc]
def bdN (i l : Int) : Bd := ⟨i.toNat, l.toNat, []⟩
theorem bdN_ok {i l : Int} (h : newB i l = true) : (bdN i l).Ok := by
  have := newB_iff.1 h
  exact ⟨by simp [bdN, Bd.last]; omega, by simp [bdN], by simp [bdN]⟩
set_option maxHeartbeats 2000000 in
set_option maxRecDepth 100000 in
theorem hNew_any (w : World) (i l : Int) :
    Calls Try.prog 36 #[.int .i64 i, .int .i64 l] w fun e w' => Below w.heap.size w w' ∧ (newB i l = true → ∃ bx F, e = .returned (.tuple #[.pointer (some ⟨bx, 0, none⟩), .int .i64 0]) ∧ HB w' bx (bdN i l) F ∧ ∀ k, F k → w.heap.size ≤ k) ∧
      (newB i l = false → e = .returned (.tuple #[.pointer none, .int .i64 1])) := by
  have hmm := @run_makeMap Try.prog
  have HI := Lib.hid (fun wx => isCount_any wx i)
  have HL := Lib.hid (fun wx => isCount_any wx l)
  by_cases h1 : decide (0 ≤ i) && decide (i ≤ 16384)
  · rw [h1] at HI
    by_cases h2 : decide (0 ≤ l) && decide (l ≤ 16384)
    · rw [h2] at HL
      have h1' : 0 ≤ i ∧ i ≤ 16384 := by simpa using h1
      have h2' : 0 ≤ l ∧ l ≤ 16384 := by simpa using h2
      have e0 : IntKind.i64.wrap (i + l) = i + l := by simp [IntKind.wrap, IntKind.bits, IntKind.signed]; omega
      by_cases h3 : i + l ≤ 16384
      · have HNB : Hid (newB i l = true) := Lib.hid (newB_iff.2 ⟨h1', h2', h3⟩)
        have h3' : ¬ 16384 < i + l := by omega
        have hbld : ∀ (g : Nat) (wz : World), (Instr.build 136 #[(0, .int .i64 i), (1, .int .i64 l), (3, .map (some g))]).run Try.prog wz = .ok (.agg #[.int .i64 i, .int .i64 l, .slice none 0 0, .map (some g)]) wz := fun g wz => run_build wz _ _ _ (by kernel_rfl)
        have hlen : Try.prog.cellsOf 136 = 4 := by kernel_rfl
        have HFIN : Hid (HB ((w.alloc (.map #[] 0)).alloc (.cells #[.int .i64 i, .int .i64 l, .slice none 0 0, .map (some w.heap.size)] 136)) (w.heap.size + 1) (bdN i l) (Foot (w.heap.size + 1) w.heap.size (.slice none 0 0))) := Lib.hid (by
          refine ⟨w.heap.size, .slice none 0 0, .map [], ⟨?_, ⟨rfl, .inl ⟨rfl, rfl⟩⟩, ?_, ⟨isMap_empty, fun x y kl _ => ⟨rfl, fun k hk => by cases hk⟩⟩, bdN_ok HNB.out⟩, rfl⟩
          · have := Blk.new (w.alloc (.map #[] 0)) 136 #[.int .i64 i, .int .i64 l, .slice none 0 0, .map (some w.heap.size)]
            rw [show (w.alloc (.map #[] 0)).heap.size = w.heap.size + 1 by simp] at this
            rw [show (((bdN i l).i : Nat) : Int) = i by simp [bdN]; omega, show (((bdN i l).l : Nat) : Int) = l by simp [bdN]; omega]
            exact this
          · exact (World.ownsMap_made (H := Unit) w Try.prog 149 (plainElem Try.prog 3)).alloc _)
        clear h1 h2 h1' h2' h3
        go_enter Try.func36, Try.ntmps36
        go_wp2_with (first
          | (go_at_call_of 84 i; refine (HI.out _).mono ?_; rintro e w3 ⟨rfl, hw3⟩; rw [hw3]; clear hw3 w3)
          | (go_at_call_of 84 l; refine (HL.out _).mono ?_; rintro e w3 ⟨rfl, hw3⟩; rw [hw3]; clear hw3 w3))
        go_ret2
        refine ⟨((Below.refl _ _).alloc (Nat.le_refl _) _).alloc (by simp) _, fun _ => ⟨w.heap.size + 1, _, rfl, HFIN.out, fun k hk => ?_⟩, fun h => ?_⟩
        · rcases hk with q | q | q
          · omega
          · omega
          · simp [Value.ownBlock] at q
        · rw [HNB.out] at h; cases h
      · have HNB : Hid (newB i l = false) := Lib.hid (by
          cases e : newB i l
          · rfl
          · exact absurd (newB_iff.1 e).2.2 h3)
        have h3' : 16384 < i + l := by omega
        clear h1 h2 h1' h2' h3
        go_enter Try.func36, Try.ntmps36
        go_wp2_with (first
          | (go_at_call_of 84 i; refine (HI.out _).mono ?_; rintro e w3 ⟨rfl, hw3⟩; rw [hw3]; clear hw3 w3)
          | (go_at_call_of 84 l; refine (HL.out _).mono ?_; rintro e w3 ⟨rfl, hw3⟩; rw [hw3]; clear hw3 w3))
        go_ret2
        first | exact ⟨Below.refl _ _, fun h => (by rw [HNB.out] at h; cases h), fun _ => rfl⟩ | exact ⟨Below.refl _ _, HNB.out⟩
    · have h2f : (decide (0 ≤ l) && decide (l ≤ 16384)) = false := by simpa using h2
      rw [h2f] at HL
      have HNB : Hid (newB i l = false) := Lib.hid (by unfold newB; rw [h2f]; simp)
      clear h1 h2 h2f
      go_enter Try.func36, Try.ntmps36
      go_wp2_with (first
        | (go_at_call_of 84 i; refine (HI.out _).mono ?_; rintro e w3 ⟨rfl, hw3⟩; rw [hw3]; clear hw3 w3)
        | (go_at_call_of 84 l; refine (HL.out _).mono ?_; rintro e w3 ⟨rfl, hw3⟩; rw [hw3]; clear hw3 w3))
      go_ret2
      first | exact ⟨Below.refl _ _, fun h => (by rw [HNB.out] at h; cases h), fun _ => rfl⟩ | exact ⟨Below.refl _ _, HNB.out⟩
  · have h1f : (decide (0 ≤ i) && decide (i ≤ 16384)) = false := by simpa using h1
    rw [h1f] at HI
    have HNB : Hid (newB i l = false) := Lib.hid (by unfold newB; rw [h1f]; simp)
    clear h1 h1f
    go_enter Try.func36, Try.ntmps36
    go_wp2_with (go_at_call 84; refine (HI.out _).mono ?_; rintro e w3 ⟨rfl, hw3⟩; rw [hw3]; clear hw3 w3)
    go_ret2
    first | exact ⟨Below.refl _ _, fun h => (by rw [HNB.out] at h; cases h), fun _ => rfl⟩ | exact ⟨Below.refl _ _, HNB.out⟩
end Go.Proofs.Ytilbgopdciiadaa

namespace Go.Proofs.Ytilbgopdciiadaa
open Go.RowKit Go.Maps

def exB1 : Bd := ⟨2, 0, [(4, 2)]⟩
def exB2 : Bd := ⟨2, 0, [(4, 2), (5, 3), (9, 7)]⟩
theorem exB_and : (bdN 2 0).And 4 2 = ((6, 0), exB1) := by rfl
theorem exB_xor : exB1.Xor 2 4 = ((10, 0), exB2) := by rfl
theorem exB_or : exB2.Or 2 4 = ((9, 0), exB2) := by rfl
set_option maxHeartbeats 4000000 in
set_option maxRecDepth 100000 in
theorem worksH_any (w : World) : Calls Try.prog 15 #[] w fun e w' => e = .returned (.bool true) ∧ Below w.heap.size w w' := by
  have HA1 := Lib.hid (fun (wx : World) (bx : Nat) (F : Nat → Prop) (h : HB wx bx (bdN 2 0) F) => (show Calls Try.prog 46 #[.pointer (some ⟨bx, 0, none⟩), .int .i64 4, .int .i64 2] wx fun e w' => e = .returned (.tuple #[.int .i64 6, .int .i64 0]) ∧ Did wx w' bx F exB1 from by
    have := hAnd_any wx bx _ F 4 2 h (by unfold I64; omega) (by unfold I64; omega)
    rw [exB_and] at this
    exact this))
  have HA2 := Lib.hid (fun (wx : World) (bx : Nat) (F : Nat → Prop) (h : HB wx bx exB1 F) => (show Calls Try.prog 47 #[.pointer (some ⟨bx, 0, none⟩), .int .i64 2, .int .i64 4] wx fun e w' => e = .returned (.tuple #[.int .i64 10, .int .i64 0]) ∧ Did wx w' bx F exB2 from by
    have := hXor_any wx bx _ F 2 4 h (by unfold I64; omega) (by unfold I64; omega)
    rw [exB_xor] at this
    exact this))
  have HA3 := Lib.hid (fun (wx : World) (bx : Nat) (F : Nat → Prop) (h : HB wx bx exB2 F) => (show Calls Try.prog 48 #[.pointer (some ⟨bx, 0, none⟩), .int .i64 2, .int .i64 4] wx fun e w' => e = .returned (.tuple #[.int .i64 9, .int .i64 0]) ∧ Did wx w' bx F exB2 from by
    have := hOr_any wx bx _ F 2 4 h (by unfold I64; omega) (by unfold I64; omega)
    rw [exB_or] at this
    exact this))
  have HSZ := Lib.hid (fun (wx : World) (bx : Nat) (F : Nat → Prop) (h : HB wx bx exB2 F) => (show Calls Try.prog 49 #[.pointer (some ⟨bx, 0, none⟩)] wx fun e w' => e = .returned (.int .i64 3) ∧ w' = wx from hSize_any wx bx _ F h))
  have HN := Lib.hid (hNew_any w 2 0)
  go_enter Try.func15, Try.ntmps15
  go_upto_region 2 with (go_at_call 36; refine HN.out.mono ?_; rintro e w1 ⟨hb1, hyes, _⟩; obtain ⟨bx, F, rfl, hh, hf⟩ := hyes (by decide); have HB1 := Lib.hid (And.intro hb1 hf); have HH1 := Lib.hid hh; clear hb1 hyes hh hf)
  go_upto_region 5 with (go_at_call 46; refine (HA1.out _ _ _ HH1.out).mono ?_; rintro e w2 ⟨rfl, F2, h2, hu2, hf2⟩; have HH2 := Lib.hid h2; have HU2 := Lib.hid (And.intro hu2 hf2); clear h2 hu2 hf2)
  go_upto_region 6 with (go_at_call 47; refine (HA2.out _ _ _ HH2.out).mono ?_; rintro e w3 ⟨rfl, hd3⟩; obtain ⟨F3, h3, hu3, hf3⟩ := Did.step HU2.out.1 HU2.out.2 hd3; have HH3 := Lib.hid h3; have HU3 := Lib.hid (And.intro hu3 hf3); clear hd3 h3 hu3 hf3)
  go_upto_region 7 with (go_at_call 48; refine (HA3.out _ _ _ HH3.out).mono ?_; rintro e w4 ⟨rfl, hd4⟩; obtain ⟨F4, h4, hu4, hf4⟩ := Did.step HU3.out.1 HU3.out.2 hd4; have HH4 := Lib.hid h4; have HU4 := Lib.hid (And.intro hu4 hf4); clear hd4 h4 hu4 hf4)
  go_wp2_with (go_at_call 49; refine (HSZ.out _ _ _ HH4.out).mono ?_; rintro e w5 ⟨rfl, hw5⟩; rw [hw5]; clear hw5 w5)
  go_ret
  exact ⟨rfl, HB1.out.1.trans (HU4.out.1.below HB1.out.1.size HB1.out.2)⟩
end Go.Proofs.Ytilbgopdciiadaa

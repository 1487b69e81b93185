/- Hash: the contracts of the document's or, And, Or, Xor, Mux, New. -/
import Derived.Test.YtbeaicmjohlboabHshR
namespace Go.Proofs.Ytbeaicmjohlboab
open Go.RowKit Go.Maps

set_option maxHeartbeats 4000000 in
set_option maxRecDepth 100000 in
theorem rOr0_any (w : World) (cx : Nat) (b : Bd) (F : Nat → Prop) (x y : Int) (h : HR w cx b F) (hx : b.has x = true) (hy : b.has y = true) :
    Calls Try.prog 76 #[.pointer (some ⟨cx, 0, none⟩), .int .i64 x, .int .i64 y] w fun e w' => e = .returned (.tuple #[.int .i64 (b.or_ x y).1.1, .int .i64 (b.or_ x y).1.2]) ∧ DidR w w' cx F (b.or_ x y).2 := by
  have hok := h.ok
  have hl := hok.last
  have hx1 := has_iff.1 hx
  have hy1 := has_iff.1 hy
  have hnx : b.has (neg x) = true := by rw [has_neg]; exact hx
  have hny : b.has (neg y) = true := by rw [has_neg]; exact hy
  have HAND := Lib.hid (rAnd0_any w cx b F (neg x) (neg y) h hnx hny)
  have hs := and_spec hok hnx hny
  have hr := And_rng hok hs.any
  have HNX := Lib.hid (fun wz => rNotH_any wz x (by omega) (by omega))
  have HNY := Lib.hid (fun wz => rNotH_any wz y (by omega) (by omega))
  have ho : b.or_ x y = negR (b.and_ (neg x) (neg y)) := rfl
  rw [ho]
  obtain ⟨nx, hnx'⟩ : ∃ z, neg x = z := ⟨_, rfl⟩
  obtain ⟨ny, hny'⟩ : ∃ z, neg y = z := ⟨_, rfl⟩
  rw [hnx'] at HNX
  rw [hny'] at HNY
  rw [hnx', hny'] at HAND hr ⊢
  obtain ⟨r, hre⟩ : ∃ r, b.and_ nx ny = r := ⟨_, rfl⟩
  rw [hre] at HAND hr ⊢
  obtain ⟨⟨r1, r2⟩, b'⟩ := r
  simp only at HAND hr
  have HNR := Lib.hid (fun wz => rNotH_any wz r1 (by omega) (by omega))
  unfold negR
  simp only
  clear hre ho hnx hny hok h hx hy hs hx1 hy1 hnx' hny' hl
  by_cases h0 : r2 = 0
  · subst h0
    rw [if_pos rfl]
    obtain ⟨nr, hnr⟩ : ∃ z, neg r1 = z := ⟨_, rfl⟩
    rw [hnr] at HNR ⊢
    clear hnr
    go_enter Try.func76, Try.ntmps76
    go_upto_region 2 with (first
      | (go_at_call_of 77 x; refine (HNX.out _).mono ?_; rintro e w3 ⟨rfl, hw3⟩; rw [hw3]; clear hw3 w3)
      | (go_at_call_of 77 y; refine (HNY.out _).mono ?_; rintro e w3 ⟨rfl, hw3⟩; rw [hw3]; clear hw3 w3)
      | (go_at_call 75; refine HAND.out.mono ?_; rintro e w2 ⟨rfl, hd⟩; have HD := Lib.hid hd; clear hd))
    go_wp2_with (go_at_call 77; refine (HNR.out _).mono ?_; rintro e w3 ⟨rfl, hw3⟩; rw [hw3]; clear hw3 w3)
    go_ret2
    exact ⟨rfl, HD.out⟩
  · rw [if_neg h0]
    have hq : (r2 != 0) = true := by simpa using h0
    clear h0
    go_enter Try.func76, Try.ntmps76
    go_wp2_with (first
      | (go_at_call_of 77 x; refine (HNX.out _).mono ?_; rintro e w3 ⟨rfl, hw3⟩; rw [hw3]; clear hw3 w3)
      | (go_at_call_of 77 y; refine (HNY.out _).mono ?_; rintro e w3 ⟨rfl, hw3⟩; rw [hw3]; clear hw3 w3)
      | (go_at_call 75; refine HAND.out.mono ?_; rintro e w2 ⟨rfl, hd⟩; have HD := Lib.hid hd; clear hd))
    go_ret2
    exact ⟨rfl, HD.out⟩

set_option maxHeartbeats 4000000 in
set_option maxRecDepth 100000 in
theorem rAndH_any (w : World) (cx : Nat) (b : Bd) (F : Nat → Prop) (x y : Int) (h : HR w cx b F) :
    Calls Try.prog 35 #[.pointer (some ⟨cx, 0, none⟩), .int .i64 x, .int .i64 y] w fun e w' => e = .returned (.tuple #[.int .i64 (b.And x y).1.1, .int .i64 (b.And x y).1.2]) ∧ DidR w w' cx F (b.And x y).2 := by
  have HX := Lib.hid (fun (wz : World) (hb : Below w.heap.size w wz) => rHas_any wz cx b F x (h.below hb))
  have HY := Lib.hid (fun (wz : World) (hb : Below w.heap.size w wz) => rHas_any wz cx b F y (h.below hb))
  have HH := Lib.hid h
  have HB0 : Hid (Below w.heap.size w w) := Lib.hid (Below.refl _ _)
  unfold Bd.And
  cases hx : b.has x
  · rw [if_neg (by simp)]
    simp only
    rw [hx] at HX
    clear h hx
    go_enter Try.func35, Try.ntmps35
    go_wp2_with (go_at_call 74; refine (HX.out _ HB0.out).mono ?_; rintro e w2 ⟨rfl, hb⟩; have HB := Lib.hid hb; clear hb)
    go_ret2
    exact ⟨rfl, DidR.of_below HH.out HB.out⟩
  · cases hy : b.has y
    · rw [if_neg (by simp)]
      simp only
      rw [hx] at HX
      rw [hy] at HY
      clear h hx hy
      go_enter Try.func35, Try.ntmps35
      go_wp2_with (first
        | (go_at_call_of 74 x; refine (HX.out _ HB0.out).mono ?_; rintro e w2 ⟨rfl, hb⟩; have HB := Lib.hid hb; clear hb HB0; have HB0 := HB; clear HB)
        | (go_at_call_of 74 y; refine (HY.out _ HB0.out).mono ?_; rintro e w2 ⟨rfl, hb⟩; have HB := Lib.hid (bt HB0.out (Nat.le_refl _) hb); clear hb HB0; have HB0 := HB; clear HB))
      go_ret2
      exact ⟨rfl, DidR.of_below HH.out HB0.out⟩
    · rw [if_pos ⟨rfl, rfl⟩]
      have HA := Lib.hid (fun (wz : World) (hb : Below w.heap.size w wz) => rAnd0_any wz cx b F x y (h.below hb) hx hy)
      rw [hx] at HX
      rw [hy] at HY
      clear h hx hy
      go_enter Try.func35, Try.ntmps35
      go_wp2_with (first
        | (go_at_call_of 74 x; refine (HX.out _ HB0.out).mono ?_; rintro e w2 ⟨rfl, hb⟩; have HB := Lib.hid hb; clear hb HB0; have HB0 := HB; clear HB)
        | (go_at_call_of 74 y; refine (HY.out _ HB0.out).mono ?_; rintro e w2 ⟨rfl, hb⟩; have HB := Lib.hid (bt HB0.out (Nat.le_refl _) hb); clear hb HB0; have HB0 := HB; clear HB)
        | (go_at_call 75; refine (HA.out _ HB0.out).mono ?_; rintro e w3 ⟨rfl, hd⟩; have HD := Lib.hid (DidR.pre HB0.out hd); clear hd))
      go_ret2
      exact ⟨rfl, HD.out⟩

set_option maxHeartbeats 4000000 in
set_option maxRecDepth 100000 in
theorem rOrH_any (w : World) (cx : Nat) (b : Bd) (F : Nat → Prop) (x y : Int) (h : HR w cx b F) :
    Calls Try.prog 36 #[.pointer (some ⟨cx, 0, none⟩), .int .i64 x, .int .i64 y] w fun e w' => e = .returned (.tuple #[.int .i64 (b.Or x y).1.1, .int .i64 (b.Or x y).1.2]) ∧ DidR w w' cx F (b.Or x y).2 := by
  have HX := Lib.hid (fun (wz : World) (hb : Below w.heap.size w wz) => rHas_any wz cx b F x (h.below hb))
  have HY := Lib.hid (fun (wz : World) (hb : Below w.heap.size w wz) => rHas_any wz cx b F y (h.below hb))
  have HH := Lib.hid h
  have HB0 : Hid (Below w.heap.size w w) := Lib.hid (Below.refl _ _)
  unfold Bd.Or
  cases hx : b.has x
  · rw [if_neg (by simp)]
    simp only
    rw [hx] at HX
    clear h hx
    go_enter Try.func36, Try.ntmps36
    go_wp2_with (go_at_call 74; refine (HX.out _ HB0.out).mono ?_; rintro e w2 ⟨rfl, hb⟩; have HB := Lib.hid hb; clear hb)
    go_ret2
    exact ⟨rfl, DidR.of_below HH.out HB.out⟩
  · cases hy : b.has y
    · rw [if_neg (by simp)]
      simp only
      rw [hx] at HX
      rw [hy] at HY
      clear h hx hy
      go_enter Try.func36, Try.ntmps36
      go_wp2_with (first
        | (go_at_call_of 74 x; refine (HX.out _ HB0.out).mono ?_; rintro e w2 ⟨rfl, hb⟩; have HB := Lib.hid hb; clear hb HB0; have HB0 := HB; clear HB)
        | (go_at_call_of 74 y; refine (HY.out _ HB0.out).mono ?_; rintro e w2 ⟨rfl, hb⟩; have HB := Lib.hid (bt HB0.out (Nat.le_refl _) hb); clear hb HB0; have HB0 := HB; clear HB))
      go_ret2
      exact ⟨rfl, DidR.of_below HH.out HB0.out⟩
    · rw [if_pos ⟨rfl, rfl⟩]
      have HA := Lib.hid (fun (wz : World) (hb : Below w.heap.size w wz) => rOr0_any wz cx b F x y (h.below hb) hx hy)
      rw [hx] at HX
      rw [hy] at HY
      clear h hx hy
      go_enter Try.func36, Try.ntmps36
      go_wp2_with (first
        | (go_at_call_of 74 x; refine (HX.out _ HB0.out).mono ?_; rintro e w2 ⟨rfl, hb⟩; have HB := Lib.hid hb; clear hb HB0; have HB0 := HB; clear HB)
        | (go_at_call_of 74 y; refine (HY.out _ HB0.out).mono ?_; rintro e w2 ⟨rfl, hb⟩; have HB := Lib.hid (bt HB0.out (Nat.le_refl _) hb); clear hb HB0; have HB0 := HB; clear HB)
        | (go_at_call 76; refine (HA.out _ HB0.out).mono ?_; rintro e w3 ⟨rfl, hd⟩; have HD := Lib.hid (DidR.pre HB0.out hd); clear hd))
      go_ret2
      exact ⟨rfl, HD.out⟩

set_option maxHeartbeats 4000000 in
set_option maxRecDepth 100000 in
theorem rMuxH_any (w : World) (cx : Nat) (b : Bd) (F : Nat → Prop) (s x y : Int) (h : HR w cx b F) :
    Calls Try.prog 38 #[.pointer (some ⟨cx, 0, none⟩), .int .i64 s, .int .i64 x, .int .i64 y] w fun e w' => e = .returned (.tuple #[.int .i64 (b.Mux s x y).1.1, .int .i64 (b.Mux s x y).1.2]) ∧ DidR w w' cx F (b.Mux s x y).2 := by
  have HS := Lib.hid (fun (wz : World) (hb : Below w.heap.size w wz) => rHas_any wz cx b F s (h.below hb))
  have HX := Lib.hid (fun (wz : World) (hb : Below w.heap.size w wz) => rHas_any wz cx b F x (h.below hb))
  have HY := Lib.hid (fun (wz : World) (hb : Below w.heap.size w wz) => rHas_any wz cx b F y (h.below hb))
  have HH := Lib.hid h
  have hok := h.ok
  have HB0 : Hid (Below w.heap.size w w) := Lib.hid (Below.refl _ _)
  by_cases hh : b.has s = true ∧ b.has x = true ∧ b.has y = true
  · have hs1 := has_iff.1 hh.1
    have hlast := hok.last
    have HA1 := Lib.hid (fun (wz : World) (hb : Below w.heap.size w wz) => rAnd0_any wz cx b F s x (h.below hb) hh.1 hh.2.1)
    have k1 := and_spec hok hh.1 hh.2.1
    have hM : b.Mux s x y = andThen (b.and_ s x) fun u b1 => andThen (b1.and_ (neg s) y) fun v b2 => b2.or_ u v := by unfold Bd.Mux; rw [if_pos hh]
    rw [hM]
    obtain ⟨r1, hr1⟩ : ∃ r, b.and_ s x = r := ⟨_, rfl⟩
    rw [hr1] at k1 HA1 ⊢
    have h1s : r1.2.has (neg s) = true := by rw [has_neg]; exact k1.has hh.1
    have h1y : r1.2.has y = true := k1.has hh.2.2
    have k2 := and_spec k1.ok h1s h1y
    have HA2 := Lib.hid (fun (wz : World) (F' : Nat → Prop) (hw : HR wz cx r1.2 F') => rAnd0_any wz cx r1.2 F' (neg s) y hw h1s h1y)
    have HNS := Lib.hid (fun wz => rNotH_any wz s (by omega) (by omega))
    obtain ⟨nz, hnz⟩ : ∃ z, neg s = z := ⟨_, rfl⟩
    rw [hnz] at HA2 HNS k2 ⊢
    obtain ⟨r2, hr2⟩ : ∃ r, r1.2.and_ nz y = r := ⟨_, rfl⟩
    rw [hr2] at k2 HA2
    have HO : Hid (r1.1.2 = 0 → r2.1.2 = 0 → ∀ (wz : World) (F' : Nat → Prop) (hw : HR wz cx r2.2 F'), Calls Try.prog 76 #[.pointer (some ⟨cx, 0, none⟩), .int .i64 r1.1.1, .int .i64 r2.1.1] wz fun e w' => e = .returned (.tuple #[.int .i64 (r2.2.or_ r1.1.1 r2.1.1).1.1, .int .i64 (r2.2.or_ r1.1.1 r2.1.1).1.2]) ∧ DidR wz w' cx F' (r2.2.or_ r1.1.1 r2.1.1).2) := Lib.hid (fun q1 q2 wz F' hw => by
      have g1 : r1.2.has r1.1.1 = true := by rcases k1.err with ⟨_, q⟩ | ⟨q, _⟩; exact q; omega
      have g2 : r2.2.has r2.1.1 = true := by rcases k2.err with ⟨_, q⟩ | ⟨q, _⟩; exact q; omega
      exact rOr0_any wz cx r2.2 F' r1.1.1 r2.1.1 hw (k2.has g1) g2)
    have HAT : Hid (r1.1.2 = 0 → andThen r1 (fun u b1 => andThen (b1.and_ nz y) fun v b2 => b2.or_ u v) = andThen r2 fun v b2 => b2.or_ r1.1.1 v) := Lib.hid (fun q => by
      show (if r1.1.2 = 0 then andThen (r1.2.and_ nz y) (fun v b2 => b2.or_ r1.1.1 v) else _) = _
      rw [if_pos q, hr2])
    have HAN : Hid (r1.1.2 ≠ 0 → andThen r1 (fun u b1 => andThen (b1.and_ nz y) fun v b2 => b2.or_ u v) = ((0, r1.1.2), r1.2)) := Lib.hid (fun q => by unfold andThen; rw [if_neg q])
    generalize andThen r1 (fun u b1 => andThen (b1.and_ nz y) fun v b2 => b2.or_ u v) = res at *
    obtain ⟨⟨u1, u2⟩, c1⟩ := r1
    obtain ⟨⟨v1, v2⟩, c2⟩ := r2
    simp only at HA1 HA2 HO HAT HAN
    rw [hh.1] at HS
    rw [hh.2.1] at HX
    rw [hh.2.2] at HY
    clear hh hM hr1 hr2 k1 k2 h1s h1y hnz hok h hs1 hlast
    by_cases q1 : u2 = 0
    · subst q1
      rw [HAT.out rfl]
      by_cases q2 : v2 = 0
      · subst q2
        have HO2 := Lib.hid (HO.out rfl rfl)
        have HR : Hid (andThen ((v1, 0), c2) (fun v b2 => b2.or_ u1 v) = c2.or_ u1 v1) := Lib.hid rfl
        rw [HR.out]
        go_enter Try.func38, Try.ntmps38
        go_upto_region 2 with (first | (go_at_call_of 74 s; refine (HS.out _ HB0.out).mono ?_; rintro e w2 ⟨rfl, hb⟩; have HB := Lib.hid (bt HB0.out (Nat.le_refl _) hb); clear hb HB0; have HB0 := HB; clear HB) | (go_at_call_of 74 x; refine (HX.out _ HB0.out).mono ?_; rintro e w2 ⟨rfl, hb⟩; have HB := Lib.hid (bt HB0.out (Nat.le_refl _) hb); clear hb HB0; have HB0 := HB; clear HB) | (go_at_call_of 74 y; refine (HY.out _ HB0.out).mono ?_; rintro e w2 ⟨rfl, hb⟩; have HB := Lib.hid (bt HB0.out (Nat.le_refl _) hb); clear hb HB0; have HB0 := HB; clear HB))
        go_upto_region 4 with (go_at_call 75; refine (HA1.out _ HB0.out).mono ?_; rintro e w3 ⟨rfl, hd3⟩; obtain ⟨F3, h3, hb3, hf3⟩ := DidR.pre HB0.out hd3; have HB3 := Lib.hid h3; have HU3 := Lib.hid (And.intro hb3 hf3); clear h3 hb3 hf3)
        go_upto_region 7 with (first | (go_at_call 77; refine (HNS.out _).mono ?_; rintro e w6 ⟨rfl, hw6⟩; rw [hw6]; clear hw6 w6) | (go_at_call 75; refine (HA2.out _ _ HB3.out).mono ?_; rintro e w4 ⟨rfl, hd4⟩; obtain ⟨F4, h4, hb4, hf4⟩ := DidR.step HU3.out.1 HU3.out.2 hd4; have HB4 := Lib.hid h4; have HU4 := Lib.hid (And.intro hb4 hf4); clear h4 hb4 hf4))
        go_wp2_with (go_at_call 76; refine (HO2.out _ _ HB4.out).mono ?_; rintro e w5 ⟨rfl, hd5⟩; have HD5 := Lib.hid (DidR.step HU4.out.1 HU4.out.2 hd5); clear hd5)
        go_ret2
        exact ⟨rfl, HD5.out⟩
      · have HR : Hid (andThen ((v1, v2), c2) (fun v b2 => b2.or_ u1 v) = ((0, v2), c2)) := Lib.hid (by unfold andThen; rw [if_neg q2])
        rw [HR.out]
        have hq : (v2 != 0) = true := by simpa using q2
        clear q2
        go_enter Try.func38, Try.ntmps38
        go_upto_region 2 with (first | (go_at_call_of 74 s; refine (HS.out _ HB0.out).mono ?_; rintro e w2 ⟨rfl, hb⟩; have HB := Lib.hid (bt HB0.out (Nat.le_refl _) hb); clear hb HB0; have HB0 := HB; clear HB) | (go_at_call_of 74 x; refine (HX.out _ HB0.out).mono ?_; rintro e w2 ⟨rfl, hb⟩; have HB := Lib.hid (bt HB0.out (Nat.le_refl _) hb); clear hb HB0; have HB0 := HB; clear HB) | (go_at_call_of 74 y; refine (HY.out _ HB0.out).mono ?_; rintro e w2 ⟨rfl, hb⟩; have HB := Lib.hid (bt HB0.out (Nat.le_refl _) hb); clear hb HB0; have HB0 := HB; clear HB))
        go_upto_region 4 with (go_at_call 75; refine (HA1.out _ HB0.out).mono ?_; rintro e w3 ⟨rfl, hd3⟩; obtain ⟨F3, h3, hb3, hf3⟩ := DidR.pre HB0.out hd3; have HB3 := Lib.hid h3; have HU3 := Lib.hid (And.intro hb3 hf3); clear h3 hb3 hf3)
        go_wp2_with (first | (go_at_call 77; refine (HNS.out _).mono ?_; rintro e w6 ⟨rfl, hw6⟩; rw [hw6]; clear hw6 w6) | (go_at_call 75; refine (HA2.out _ _ HB3.out).mono ?_; rintro e w4 ⟨rfl, hd4⟩; obtain ⟨F4, h4, hb4, hf4⟩ := DidR.step HU3.out.1 HU3.out.2 hd4; have HB4 := Lib.hid h4; have HU4 := Lib.hid (And.intro hb4 hf4); clear h4 hb4 hf4))
        go_ret2
        exact ⟨rfl, F4, HB4.out, HU4.out.1, HU4.out.2⟩
    · rw [HAN.out q1]
      have hq : (u2 != 0) = true := by simpa using q1
      clear q1
      go_enter Try.func38, Try.ntmps38
      go_upto_region 2 with (first | (go_at_call_of 74 s; refine (HS.out _ HB0.out).mono ?_; rintro e w2 ⟨rfl, hb⟩; have HB := Lib.hid (bt HB0.out (Nat.le_refl _) hb); clear hb HB0; have HB0 := HB; clear HB) | (go_at_call_of 74 x; refine (HX.out _ HB0.out).mono ?_; rintro e w2 ⟨rfl, hb⟩; have HB := Lib.hid (bt HB0.out (Nat.le_refl _) hb); clear hb HB0; have HB0 := HB; clear HB) | (go_at_call_of 74 y; refine (HY.out _ HB0.out).mono ?_; rintro e w2 ⟨rfl, hb⟩; have HB := Lib.hid (bt HB0.out (Nat.le_refl _) hb); clear hb HB0; have HB0 := HB; clear HB))
      go_wp2_with (go_at_call 75; refine (HA1.out _ HB0.out).mono ?_; rintro e w3 ⟨rfl, hd3⟩; obtain ⟨F3, h3, hb3, hf3⟩ := DidR.pre HB0.out hd3; have HB3 := Lib.hid h3; have HU3 := Lib.hid (And.intro hb3 hf3); clear h3 hb3 hf3)
      go_ret2
      exact ⟨rfl, F3, HB3.out, HU3.out.1, HU3.out.2⟩
  · have hM : b.Mux s x y = ((0, 5), b) := by unfold Bd.Mux; rw [if_neg hh]
    rw [hM]
    simp only
    obtain ⟨bs, hbs⟩ : ∃ z, b.has s = z := ⟨_, rfl⟩
    obtain ⟨bx', hbx'⟩ : ∃ z, b.has x = z := ⟨_, rfl⟩
    obtain ⟨by', hby'⟩ : ∃ z, b.has y = z := ⟨_, rfl⟩
    rw [hbs] at HS hh
    rw [hbx'] at HX hh
    rw [hby'] at HY hh
    clear hM hbs hbx' hby' h hok
    cases bs
    · go_enter Try.func38, Try.ntmps38
      go_wp2_with (first | (go_at_call_of 74 s; refine (HS.out _ HB0.out).mono ?_; rintro e w2 ⟨rfl, hb⟩; have HB := Lib.hid (bt HB0.out (Nat.le_refl _) hb); clear hb HB0; have HB0 := HB; clear HB) | (go_at_call_of 74 x; refine (HX.out _ HB0.out).mono ?_; rintro e w2 ⟨rfl, hb⟩; have HB := Lib.hid (bt HB0.out (Nat.le_refl _) hb); clear hb HB0; have HB0 := HB; clear HB) | (go_at_call_of 74 y; refine (HY.out _ HB0.out).mono ?_; rintro e w2 ⟨rfl, hb⟩; have HB := Lib.hid (bt HB0.out (Nat.le_refl _) hb); clear hb HB0; have HB0 := HB; clear HB))
      go_ret2
      exact ⟨rfl, DidR.of_below HH.out HB0.out⟩
    · cases bx'
      · go_enter Try.func38, Try.ntmps38
        go_wp2_with (first | (go_at_call_of 74 s; refine (HS.out _ HB0.out).mono ?_; rintro e w2 ⟨rfl, hb⟩; have HB := Lib.hid (bt HB0.out (Nat.le_refl _) hb); clear hb HB0; have HB0 := HB; clear HB) | (go_at_call_of 74 x; refine (HX.out _ HB0.out).mono ?_; rintro e w2 ⟨rfl, hb⟩; have HB := Lib.hid (bt HB0.out (Nat.le_refl _) hb); clear hb HB0; have HB0 := HB; clear HB) | (go_at_call_of 74 y; refine (HY.out _ HB0.out).mono ?_; rintro e w2 ⟨rfl, hb⟩; have HB := Lib.hid (bt HB0.out (Nat.le_refl _) hb); clear hb HB0; have HB0 := HB; clear HB))
        go_ret2
        exact ⟨rfl, DidR.of_below HH.out HB0.out⟩
      · cases by'
        · go_enter Try.func38, Try.ntmps38
          go_wp2_with (first | (go_at_call_of 74 s; refine (HS.out _ HB0.out).mono ?_; rintro e w2 ⟨rfl, hb⟩; have HB := Lib.hid (bt HB0.out (Nat.le_refl _) hb); clear hb HB0; have HB0 := HB; clear HB) | (go_at_call_of 74 x; refine (HX.out _ HB0.out).mono ?_; rintro e w2 ⟨rfl, hb⟩; have HB := Lib.hid (bt HB0.out (Nat.le_refl _) hb); clear hb HB0; have HB0 := HB; clear HB) | (go_at_call_of 74 y; refine (HY.out _ HB0.out).mono ?_; rintro e w2 ⟨rfl, hb⟩; have HB := Lib.hid (bt HB0.out (Nat.le_refl _) hb); clear hb HB0; have HB0 := HB; clear HB))
          go_ret2
          exact ⟨rfl, DidR.of_below HH.out HB0.out⟩
        · exact absurd ⟨rfl, rfl, rfl⟩ hh

set_option maxHeartbeats 4000000 in
set_option maxRecDepth 100000 in
theorem rXorH_any (w : World) (cx : Nat) (b : Bd) (F : Nat → Prop) (x y : Int) (h : HR w cx b F) :
    Calls Try.prog 37 #[.pointer (some ⟨cx, 0, none⟩), .int .i64 x, .int .i64 y] w fun e w' => e = .returned (.tuple #[.int .i64 (b.Xor x y).1.1, .int .i64 (b.Xor x y).1.2]) ∧ DidR w w' cx F (b.Xor x y).2 := by
  have HX := Lib.hid (fun (wz : World) (hb : Below w.heap.size w wz) => rHas_any wz cx b F x (h.below hb))
  have HY := Lib.hid (fun (wz : World) (hb : Below w.heap.size w wz) => rHas_any wz cx b F y (h.below hb))
  have HH := Lib.hid h
  have hok := h.ok
  have HB0 : Hid (Below w.heap.size w w) := Lib.hid (Below.refl _ _)
  by_cases hh : b.has x = true ∧ b.has y = true
  · have hx1 := has_iff.1 hh.1
    have hy1 := has_iff.1 hh.2
    have hlast := hok.last
    have HA1 := Lib.hid (fun (wz : World) (hb : Below w.heap.size w wz) => rAnd0_any wz cx b F x y (h.below hb) hh.1 hh.2)
    have k1 := and_spec hok hh.1 hh.2
    have hM : b.Xor x y = andThen (b.and_ x y) fun u b1 => andThen (b1.and_ (neg x) (neg y)) fun v b2 => b2.and_ (neg u) (neg v) := by unfold Bd.Xor; rw [if_pos hh]
    rw [hM]
    obtain ⟨r1, hr1⟩ : ∃ r, b.and_ x y = r := ⟨_, rfl⟩
    rw [hr1] at k1 HA1 ⊢
    have h1x : r1.2.has (neg x) = true := by rw [has_neg]; exact k1.has hh.1
    have h1y : r1.2.has (neg y) = true := by rw [has_neg]; exact k1.has hh.2
    have k2 := and_spec k1.ok h1x h1y
    have g1 := And_rng hok k1.any
    have HA2 := Lib.hid (fun (wz : World) (F' : Nat → Prop) (hw : HR wz cx r1.2 F') => rAnd0_any wz cx r1.2 F' (neg x) (neg y) hw h1x h1y)
    have HNX := Lib.hid (fun wz => rNotH_any wz x (by omega) (by omega))
    have HNY := Lib.hid (fun wz => rNotH_any wz y (by omega) (by omega))
    obtain ⟨nx, hnx⟩ : ∃ z, neg x = z := ⟨_, rfl⟩
    obtain ⟨ny, hny⟩ : ∃ z, neg y = z := ⟨_, rfl⟩
    rw [hnx] at HA2 HNX k2 ⊢
    rw [hny] at HA2 HNY k2 ⊢
    obtain ⟨r2, hr2⟩ : ∃ r, r1.2.and_ nx ny = r := ⟨_, rfl⟩
    rw [hr2] at k2 HA2
    have g2 := And_rng k1.ok k2.any
    have HNU := Lib.hid (fun wz => rNotH_any wz r1.1.1 (by omega) (by omega))
    have HNV := Lib.hid (fun wz => rNotH_any wz r2.1.1 (by omega) (by omega))
    have HO : Hid (r1.1.2 = 0 → r2.1.2 = 0 → ∀ (wz : World) (F' : Nat → Prop) (hw : HR wz cx r2.2 F'), Calls Try.prog 75 #[.pointer (some ⟨cx, 0, none⟩), .int .i64 (neg r1.1.1), .int .i64 (neg r2.1.1)] wz fun e w' => e = .returned (.tuple #[.int .i64 (r2.2.and_ (neg r1.1.1) (neg r2.1.1)).1.1, .int .i64 (r2.2.and_ (neg r1.1.1) (neg r2.1.1)).1.2]) ∧ DidR wz w' cx F' (r2.2.and_ (neg r1.1.1) (neg r2.1.1)).2) := Lib.hid (fun q1 q2 wz F' hw => by
      have e1 : r1.2.has r1.1.1 = true := by rcases k1.err with ⟨_, q⟩ | ⟨q, _⟩; exact q; omega
      have e2 : r2.2.has r2.1.1 = true := by rcases k2.err with ⟨_, q⟩ | ⟨q, _⟩; exact q; omega
      exact rAnd0_any wz cx r2.2 F' _ _ hw (by rw [has_neg]; exact k2.has e1) (by rw [has_neg]; exact e2))
    have HAT : Hid (r1.1.2 = 0 → andThen r1 (fun u b1 => andThen (b1.and_ nx ny) fun v b2 => b2.and_ (neg u) (neg v)) = andThen r2 fun v b2 => b2.and_ (neg r1.1.1) (neg v)) := Lib.hid (fun q => by
      show (if r1.1.2 = 0 then andThen (r1.2.and_ nx ny) (fun v b2 => b2.and_ (neg r1.1.1) (neg v)) else _) = _
      rw [if_pos q, hr2])
    have HAN : Hid (r1.1.2 ≠ 0 → andThen r1 (fun u b1 => andThen (b1.and_ nx ny) fun v b2 => b2.and_ (neg u) (neg v)) = ((0, r1.1.2), r1.2)) := Lib.hid (fun q => by unfold andThen; rw [if_neg q])
    generalize andThen r1 (fun u b1 => andThen (b1.and_ nx ny) fun v b2 => b2.and_ (neg u) (neg v)) = res at *
    obtain ⟨⟨u1, u2⟩, c1⟩ := r1
    obtain ⟨⟨v1, v2⟩, c2⟩ := r2
    simp only at HA1 HA2 HO HAT HAN HNU HNV
    obtain ⟨mu, hmu⟩ : ∃ z, neg u1 = z := ⟨_, rfl⟩
    obtain ⟨mv, hmv⟩ : ∃ z, neg v1 = z := ⟨_, rfl⟩
    rw [hmu] at HO HNU HAT
    rw [hmv] at HO HNV
    rw [hh.1] at HX
    rw [hh.2] at HY
    have HMV := Lib.hid hmv
    clear hh hM hr1 hr2 k1 k2 h1x h1y hnx hny hmu hmv g1 g2 hok h hx1 hy1 hlast
    by_cases q1 : u2 = 0
    · subst q1
      rw [HAT.out rfl]
      by_cases q2 : v2 = 0
      · subst q2
        have HO2 := Lib.hid (HO.out rfl rfl)
        have HR : Hid (andThen ((v1, 0), c2) (fun v b2 => b2.and_ mu (neg v)) = c2.and_ mu mv) := Lib.hid (by show c2.and_ mu (neg v1) = _; rw [HMV.out])
        rw [HR.out]
        go_enter Try.func37, Try.ntmps37
        go_upto_region 2 with (first | (go_at_call_of 74 x; refine (HX.out _ HB0.out).mono ?_; rintro e w2 ⟨rfl, hb⟩; have HB := Lib.hid (bt HB0.out (Nat.le_refl _) hb); clear hb HB0; have HB0 := HB; clear HB) | (go_at_call_of 74 y; refine (HY.out _ HB0.out).mono ?_; rintro e w2 ⟨rfl, hb⟩; have HB := Lib.hid (bt HB0.out (Nat.le_refl _) hb); clear hb HB0; have HB0 := HB; clear HB))
        go_upto_region 4 with (go_at_call 75; refine (HA1.out _ HB0.out).mono ?_; rintro e w3 ⟨rfl, hd3⟩; obtain ⟨F3, h3, hb3, hf3⟩ := DidR.pre HB0.out hd3; have HB3 := Lib.hid h3; have HU3 := Lib.hid (And.intro hb3 hf3); clear h3 hb3 hf3)
        go_upto_region 7 with (first | (go_at_call_of 77 x; refine (HNX.out _).mono ?_; rintro e w6 ⟨rfl, hw6⟩; rw [hw6]; clear hw6 w6) | (go_at_call_of 77 y; refine (HNY.out _).mono ?_; rintro e w6 ⟨rfl, hw6⟩; rw [hw6]; clear hw6 w6) | (go_at_call 75; refine (HA2.out _ _ HB3.out).mono ?_; rintro e w4 ⟨rfl, hd4⟩; obtain ⟨F4, h4, hb4, hf4⟩ := DidR.step HU3.out.1 HU3.out.2 hd4; have HB4 := Lib.hid h4; have HU4 := Lib.hid (And.intro hb4 hf4); clear h4 hb4 hf4))
        go_wp2_with (first
          | (go_at_call_of 77 u1; refine (HNU.out _).mono ?_; rintro e w6 ⟨rfl, hw6⟩; rw [hw6]; clear hw6 w6)
          | (go_at_call_of 77 v1; refine (HNV.out _).mono ?_; rintro e w6 ⟨rfl, hw6⟩; rw [hw6]; clear hw6 w6)
          | (go_at_call 75; refine (HO2.out _ _ HB4.out).mono ?_; rintro e w5 ⟨rfl, hd5⟩; have HD5 := Lib.hid (DidR.step HU4.out.1 HU4.out.2 hd5); clear hd5))
        go_ret2
        exact ⟨rfl, HD5.out⟩
      · have HR : Hid (andThen ((v1, v2), c2) (fun v b2 => b2.and_ mu (neg v)) = ((0, v2), c2)) := Lib.hid (by unfold andThen; rw [if_neg q2])
        rw [HR.out]
        have hq : (v2 != 0) = true := by simpa using q2
        clear q2
        go_enter Try.func37, Try.ntmps37
        go_upto_region 2 with (first | (go_at_call_of 74 x; refine (HX.out _ HB0.out).mono ?_; rintro e w2 ⟨rfl, hb⟩; have HB := Lib.hid (bt HB0.out (Nat.le_refl _) hb); clear hb HB0; have HB0 := HB; clear HB) | (go_at_call_of 74 y; refine (HY.out _ HB0.out).mono ?_; rintro e w2 ⟨rfl, hb⟩; have HB := Lib.hid (bt HB0.out (Nat.le_refl _) hb); clear hb HB0; have HB0 := HB; clear HB))
        go_upto_region 4 with (go_at_call 75; refine (HA1.out _ HB0.out).mono ?_; rintro e w3 ⟨rfl, hd3⟩; obtain ⟨F3, h3, hb3, hf3⟩ := DidR.pre HB0.out hd3; have HB3 := Lib.hid h3; have HU3 := Lib.hid (And.intro hb3 hf3); clear h3 hb3 hf3)
        go_wp2_with (first | (go_at_call_of 77 x; refine (HNX.out _).mono ?_; rintro e w6 ⟨rfl, hw6⟩; rw [hw6]; clear hw6 w6) | (go_at_call_of 77 y; refine (HNY.out _).mono ?_; rintro e w6 ⟨rfl, hw6⟩; rw [hw6]; clear hw6 w6) | (go_at_call 75; refine (HA2.out _ _ HB3.out).mono ?_; rintro e w4 ⟨rfl, hd4⟩; obtain ⟨F4, h4, hb4, hf4⟩ := DidR.step HU3.out.1 HU3.out.2 hd4; have HB4 := Lib.hid h4; have HU4 := Lib.hid (And.intro hb4 hf4); clear h4 hb4 hf4))
        go_ret2
        exact ⟨rfl, F4, HB4.out, HU4.out.1, HU4.out.2⟩
    · rw [HAN.out q1]
      have hq : (u2 != 0) = true := by simpa using q1
      clear q1
      go_enter Try.func37, Try.ntmps37
      go_upto_region 2 with (first | (go_at_call_of 74 x; refine (HX.out _ HB0.out).mono ?_; rintro e w2 ⟨rfl, hb⟩; have HB := Lib.hid (bt HB0.out (Nat.le_refl _) hb); clear hb HB0; have HB0 := HB; clear HB) | (go_at_call_of 74 y; refine (HY.out _ HB0.out).mono ?_; rintro e w2 ⟨rfl, hb⟩; have HB := Lib.hid (bt HB0.out (Nat.le_refl _) hb); clear hb HB0; have HB0 := HB; clear HB))
      go_wp2_with (go_at_call 75; refine (HA1.out _ HB0.out).mono ?_; rintro e w3 ⟨rfl, hd3⟩; obtain ⟨F3, h3, hb3, hf3⟩ := DidR.pre HB0.out hd3; have HB3 := Lib.hid h3; have HU3 := Lib.hid (And.intro hb3 hf3); clear h3 hb3 hf3)
      go_ret2
      exact ⟨rfl, F3, HB3.out, HU3.out.1, HU3.out.2⟩
  · have hM : b.Xor x y = ((0, 5), b) := by unfold Bd.Xor; rw [if_neg hh]
    rw [hM]
    simp only
    obtain ⟨bx', hbx'⟩ : ∃ z, b.has x = z := ⟨_, rfl⟩
    obtain ⟨by', hby'⟩ : ∃ z, b.has y = z := ⟨_, rfl⟩
    rw [hbx'] at HX hh
    rw [hby'] at HY hh
    clear hM hbx' hby' h hok
    cases bx'
    · go_enter Try.func37, Try.ntmps37
      go_wp2_with (first | (go_at_call_of 74 x; refine (HX.out _ HB0.out).mono ?_; rintro e w2 ⟨rfl, hb⟩; have HB := Lib.hid (bt HB0.out (Nat.le_refl _) hb); clear hb HB0; have HB0 := HB; clear HB) | (go_at_call_of 74 y; refine (HY.out _ HB0.out).mono ?_; rintro e w2 ⟨rfl, hb⟩; have HB := Lib.hid (bt HB0.out (Nat.le_refl _) hb); clear hb HB0; have HB0 := HB; clear HB))
      go_ret2
      exact ⟨rfl, DidR.of_below HH.out HB0.out⟩
    · cases by'
      · go_enter Try.func37, Try.ntmps37
        go_wp2_with (first | (go_at_call_of 74 x; refine (HX.out _ HB0.out).mono ?_; rintro e w2 ⟨rfl, hb⟩; have HB := Lib.hid (bt HB0.out (Nat.le_refl _) hb); clear hb HB0; have HB0 := HB; clear HB) | (go_at_call_of 74 y; refine (HY.out _ HB0.out).mono ?_; rintro e w2 ⟨rfl, hb⟩; have HB := Lib.hid (bt HB0.out (Nat.le_refl _) hb); clear hb HB0; have HB0 := HB; clear HB))
        go_ret2
        exact ⟨rfl, DidR.of_below HH.out HB0.out⟩
      · exact absurd ⟨rfl, rfl⟩ hh

set_option maxHeartbeats 2000000 in
set_option maxRecDepth 100000 in
theorem rNew_any (w : World) (i l : Int) (_hi : I64 i) (_hl : I64 l) :
    Calls Try.prog 9 #[.int .i64 i, .int .i64 l] w fun e w' => Below w.heap.size w w' ∧ (newB i l = true → ∃ cx F, e = .returned (.tuple #[.pointer (some ⟨cx, 0, none⟩), .int .i64 0]) ∧ HR w' cx (bdN i l) F ∧ ∀ k, F k → w.heap.size ≤ k) ∧
      (newB i l = false → e = .returned (.tuple #[.pointer none, .int .i64 1])) := by
  have hno : ¬ ((0 ≤ i ∧ i ≤ 16384) ∧ (0 ≤ l ∧ l ≤ 16384) ∧ i + l ≤ 16384) → newB i l = false := fun h => by
    cases e : newB i l
    · rfl
    · exact absurd (newB_iff.1 e) h
  by_cases h1 : i < 0
  · have HNB := Lib.hid (hno (by omega))
    clear hno
    go_enter Try.func9, Try.ntmps9
    go_wp2
    go_ret2
    exact ⟨Below.refl _ _, fun h => (by rw [HNB.out] at h; cases h), fun _ => rfl⟩
  · by_cases h2 : 16384 < i
    · have HNB := Lib.hid (hno (by omega))
      clear hno
      go_enter Try.func9, Try.ntmps9
      go_wp2
      go_ret2
      exact ⟨Below.refl _ _, fun h => (by rw [HNB.out] at h; cases h), fun _ => rfl⟩
    · by_cases h3 : l < 0
      · have HNB := Lib.hid (hno (by omega))
        clear hno
        go_enter Try.func9, Try.ntmps9
        go_wp2
        go_ret2
        exact ⟨Below.refl _ _, fun h => (by rw [HNB.out] at h; cases h), fun _ => rfl⟩
      · by_cases h4 : 16384 < l
        · have HNB := Lib.hid (hno (by omega))
          clear hno
          go_enter Try.func9, Try.ntmps9
          go_wp2
          go_ret2
          exact ⟨Below.refl _ _, fun h => (by rw [HNB.out] at h; cases h), fun _ => rfl⟩
        · have e0 : IntKind.i64.wrap (i + l) = i + l := by simp [IntKind.wrap, IntKind.bits, IntKind.signed]; omega
          by_cases h5 : 16384 < i + l
          · have HNB := Lib.hid (hno (by omega))
            clear hno
            go_enter Try.func9, Try.ntmps9
            go_wp2
            go_ret2
            exact ⟨Below.refl _ _, fun h => (by rw [HNB.out] at h; cases h), fun _ => rfl⟩
          · have HNB : Hid (newB i l = true) := Lib.hid (newB_iff.2 (by omega))
            have hbld : ∀ (wz : World), (Instr.build 39 #[(0, .int .i64 i), (1, .int .i64 l)]).run Try.prog wz = .ok (.agg #[.int .i64 i, .int .i64 l, .slice none 0 0]) wz := fun wz => run_build wz _ _ _ (by kernel_rfl)
            have HFIN : Hid (HR (w.alloc (.cells #[.int .i64 i, .int .i64 l, .slice none 0 0] 39)) w.heap.size (bdN i l) (FootR w.heap.size (.slice none 0 0))) := Lib.hid (by
              refine ⟨.slice none 0 0, ⟨?_, ⟨rfl, .inl ⟨rfl, rfl⟩⟩, bdN_ok HNB.out⟩, rfl⟩
              have := Blk.new w 39 #[.int .i64 i, .int .i64 l, .slice none 0 0]
              rw [show (((bdN i l).i : Nat) : Int) = i by simp [bdN]; omega, show (((bdN i l).l : Nat) : Int) = l by simp [bdN]; omega]
              exact this)
            clear hno
            go_enter Try.func9, Try.ntmps9
            go_wp2
            go_ret2
            first | refine ⟨(Below.refl _ _).alloc (Nat.le_refl _) _, fun _ => ⟨w.heap.size, _, rfl, HFIN.out, fun k hk => ?_⟩, fun h => ?_⟩ | refine ⟨(Below.refl _ _).alloc (Nat.le_refl _) _, fun _ => ⟨w.heap.size, rfl, _, HFIN.out, fun k hk => ?_⟩, fun h => ?_⟩ | refine ⟨(Below.refl _ _).alloc (Nat.le_refl _) _, fun _ => ⟨_, HFIN.out, fun k hk => ?_⟩, fun h => ?_⟩
            · rcases hk with q | q
              · omega
              · simp [Value.ownBlock] at q
            · rw [HNB.out] at h; cases h
end Go.Proofs.Ytbeaicmjohlboab

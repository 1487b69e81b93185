/- Cone: the statements' own example: trestlelaw10.works answers true in whatever world. -/
import Derived.Test.YtahjmkdpnkffhaaConJ
namespace Go.Proofs.Ytahjmkdpnkffhaa
open Go.RowKit Go.Maps

def exC : Circ := { max := 5, inputs := [2, 4], latches := [(6, 2, 0), (8, 10, 0)], outputs := [], bads := [6, 8], constraints := [], justice := [], fairness := [], ands := [(10, 8, 4)], symbols := [], comments := [] }
theorem rowe_nilC {E : Type} {k : Nat} {enc : E → List Value} {w : World} {A : Option Addr} : RowE k enc w (.slice A 0 0) ([] : List E) := RowE.nil w A 0 (by simp [maxLen])
theorem lists_nilC {w : World} : Lists w (.slice none 0 0) [] := ⟨[], rowe_nilC, rfl, fun i u zs hu _ => by simp at hu⟩
theorem blk_roweC {E : Type} {k : Nat} {enc : E → List Value} {w : World} {g : Nat} {t : TypeId} {zs : List E} (hk : ∀ z, (enc z).length = k) (h : Blk w g t (zs.flatMap enc).toArray) (hm : zs.length ≤ maxLen) : RowE k enc w (.slice (some ⟨g, 0, none⟩) zs.length zs.length) zs :=
  ⟨_, _, rfl, Nat.le_refl _, hm, fun i z hz => ⟨g, 0, rfl, h.lt, fun j u hu => by
    have hj : j < k := by rw [← hk z]; exact (List.getElem?_eq_some_iff.1 hu).1
    rw [Nat.zero_add, h.cell, List.getElem?_toArray, flat_get hk zs i z hz j hj]; exact hu⟩⟩
abbrev exCV (a b c d : Nat) : CV := ⟨.slice (some ⟨a, 0, none⟩) 2 2, .slice (some ⟨b, 0, none⟩) 2 2, .slice none 0 0, .slice (some ⟨c, 0, none⟩) 2 2, .slice none 0 0, .slice none 0 0, .slice none 0 0, .slice (some ⟨d, 0, none⟩) 1 1, .slice none 0 0, .slice none 0 0⟩
theorem exC_in {w : World} {a b c d : Nat} (h1 : Blk w a 3 #[.int .i64 2, .int .i64 4]) (h2 : Blk w b 114 #[.int .i64 6, .int .i64 2, .int .i64 0, .int .i64 8, .int .i64 10, .int .i64 0]) (h3 : Blk w c 3 #[.int .i64 6, .int .i64 8]) (h4 : Blk w d 43 #[.int .i64 10, .int .i64 8, .int .i64 4]) : exC.In w (exCV a b c d) :=
  ⟨blk_roweC (zs := ([2, 4] : List Int)) lenI h1 (by simp [maxLen]), blk_roweC (zs := ([(6, 2, 0), (8, 10, 0)] : List Tri)) lenT h2 (by simp [maxLen]), rowe_nilC, blk_roweC (zs := ([6, 8] : List Int)) lenI h3 (by simp [maxLen]), rowe_nilC, lists_nilC, rowe_nilC, blk_roweC (zs := ([(10, 8, 4)] : List Tri)) lenT h4 (by simp [maxLen]), rowe_nilC, rowe_nilC⟩
theorem exC_ok : exC.Ok := by
  refine ⟨?_, ?_, ?_, ?_, ?_, ?_, ?_, ?_, ?_, ?_, ?_⟩ <;> simp [exC, I64, I64T]
theorem exC_check : checkR exC = (0, 0) := by decide +kernel
theorem exC_thru : thruU exC = [(0, 0), (0, 0), (0, 0), (2, 0), (10, 0), (8, 4)] := by decide +kernel
theorem exC_hang {L : List Int} {tb : List Bool} (hl : tb.length = 6) (hr : ∀ l ∈ L, 2 ≤ l → tb.getD (vOf l) false = true)
    (hs : ∀ v : Nat, v < 6 → tb.getD v false = true → (2 ≤ ((thruU exC).getD v (0, 0)).1 → tb.getD (vOf ((thruU exC).getD v (0, 0)).1) false = true) ∧ (2 ≤ ((thruU exC).getD v (0, 0)).2 → tb.getD (vOf ((thruU exC).getD v (0, 0)).2) false = true))
    (ho : ∀ v : Nat, v < 6 → tb.getD v false = true → Hang (thruU exC) L v) : supF (thruU exC) L = tb :=
  (sup_eq (by rw [hl, exC_thru]; rfl) (fun v hv => ⟨fun h => ho v (by rw [← hl]; exact get_lt h) h, fun h => h.least (p := fun v => tb.getD v false = true) hr (fun v h => hs v (by rw [← hl]; exact get_lt h) h)⟩)).symm
def exT0 : List Bool := [false, true, false, true, false, false]
def exT1 : List Bool := [false, false, true, false, true, true]
theorem exC_con0 : conB exC 0 = exT0 := by
  have r3 : Hang (thruU exC) (rootsB exC 0) 3 := Hang.root (l := 6) (by decide) (by decide)
  have h1 : Hang (thruU exC) (rootsB exC 0) 1 := by
    have := Hang.left r3 (by rw [exC_thru]; decide)
    rw [exC_thru] at this ⊢
    exact this
  refine exC_hang rfl (by decide) (by rw [exC_thru]; decide +kernel) (fun v hv h => ?_)
  have : v = 0 ∨ v = 1 ∨ v = 2 ∨ v = 3 ∨ v = 4 ∨ v = 5 := by omega
  rcases this with rfl | rfl | rfl | rfl | rfl | rfl
  · cases h
  · exact h1
  · cases h
  · exact r3
  · cases h
  · cases h
theorem exC_con1 : conB exC 1 = exT1 := by
  have r4 : Hang (thruU exC) (rootsB exC 1) 4 := Hang.root (l := 8) (by decide) (by decide)
  have h5 : Hang (thruU exC) (rootsB exC 1) 5 := by
    have := Hang.left r4 (by rw [exC_thru]; decide)
    rw [exC_thru] at this ⊢
    exact this
  have h2 : Hang (thruU exC) (rootsB exC 1) 2 := by
    have := Hang.right h5 (by rw [exC_thru]; decide)
    rw [exC_thru] at this ⊢
    exact this
  refine exC_hang rfl (by decide) (by rw [exC_thru]; decide +kernel) (fun v hv h => ?_)
  have : v = 0 ∨ v = 1 ∨ v = 2 ∨ v = 3 ∨ v = 4 ∨ v = 5 := by omega
  rcases this with rfl | rfl | rfl | rfl | rfl | rfl
  · cases h
  · cases h
  · exact h2
  · cases h
  · exact r4
  · exact h5
theorem exC_props1 : propsE exC [(98, 0)] = 0 := propsE_all (by rw [exC_check]) (by decide +kernel)
theorem exC_props2 : propsE exC [(98, 0), (98, 1)] = 0 := propsE_all (by rw [exC_check]) (by decide +kernel)
theorem exC_alike : alikeR exC 0 1 = (0, 2, 0) := by
  unfold alikeR
  rw [if_pos exC_props2]
  show ((bothF (conB exC 0) (conB exC 1) exC.latches : Int), (someF (conB exC 0) (conB exC 1) exC.latches : Int), (0 : Int)) = _
  rw [exC_con0, exC_con1]
  decide +kernel
theorem exC_latches : (cutX exC (conB exC 0) 0).latches = [(4, 2, 0)] := by rw [exC_con0]; decide +kernel
theorem exC_nums : numsF (conB exC 0) exC.inputs 0 = [0] := by rw [exC_con0]; decide +kernel

theorem exC_of (wx : World) (a b c d : Nat) (hx : exC.In wx (exCV a b c d)) : Calls Try.prog 46 #[(exCV a b c d).val 5, .agg #[.int .u8 98, .int .i64 0]] wx fun e w' => Below wx.heap.size wx w' ∧ ∃ (A1 A4 A5 A8 Ai At : Option Addr) (n1 c1 n4 c4 n5 c5 n8 c8 ci nt ct gl off cl gm : Nat) (mx : Int),
    e = .returned (.tuple #[.agg #[.int .i64 mx, .slice A1 n1 c1, .slice (some ⟨gl, off, none⟩) 1 cl, .slice none 0 0, .slice A4 n4 c4, .slice A5 n5 c5, .slice none 0 0, .slice none 0 0, .slice A8 n8 c8, .slice none 0 0, .slice none 0 0, .slice (some ⟨gm, 0, none⟩) 6 6, .slice Ai 1 ci, .slice At nt ct], .int .i64 0]) ∧
    w'.cell? ⟨gl, off, none⟩ = some (.int .i64 4) ∧ w'.cell? ⟨gl, off + 1, none⟩ = some (.int .i64 2) ∧ w'.cell? ⟨gl, off + 2, none⟩ = some (.int .i64 0) ∧ gl < w'.heap.size := by
  have h := OfB_any wx (exCV a b c d) exC 0 hx exC_ok
  rw [exC_props1] at h
  refine h.mono ?_
  rintro e w' ⟨hb, cs, rfl, _, hyes⟩
  obtain ⟨V', lv, iv, tv, rfl, hc⟩ := hyes rfl
  refine ⟨hb, ?_⟩
  obtain ⟨A1, c1, e1⟩ := own_slice1 hc.i
  obtain ⟨A4, c4, e4⟩ := own_slice1 hc.b
  obtain ⟨A5, c5, e5⟩ := own_slice1 hc.c
  obtain ⟨A8, c8, e8⟩ := own_slice1 hc.a
  obtain ⟨gm, em, _, _⟩ := hc.m
  obtain ⟨Ai, ci, ei⟩ := own_slice1 hc.iv
  obtain ⟨At, ct, et⟩ := own_slice1 hc.tv
  have hl := hc.l
  rw [show ((0 : Int).toNat) = 0 from rfl] at hl ei
  rw [exC_latches] at hl
  rw [exC_nums] at ei
  obtain ⟨A2, c2, e2, _, _, hrun⟩ := own_rowe lenT hl
  obtain ⟨gl, off, rfl, hlt, hcell⟩ := hrun 0 (4, 2, 0) rfl
  have k0 := hcell 0 _ rfl
  have k1 := hcell 1 _ rfl
  have k2 := hcell 2 _ rfl
  simp only [Nat.zero_mul, Nat.zero_add, Nat.add_zero] at k0 k1 k2
  obtain ⟨zo, zj, zf, zs, zt⟩ : V'.o = .slice none 0 0 ∧ V'.j = .slice none 0 0 ∧ V'.f = .slice none 0 0 ∧ V'.s = .slice none 0 0 ∧ V'.t = .slice none 0 0 := ⟨hc.zo, hc.zj, hc.zf, hc.zs, hc.zt⟩
  clear hc hl
  obtain ⟨Wi, Wl, Wo, Wb, Wc, Wj, Wf, Wa, Ws, Wt⟩ := V'
  simp only at e1 e2 e4 e5 e8 zo zj zf zs zt
  subst e1 e2 e4 e5 e8 zo zj zf zs zt em ei et
  exact ⟨A1, A4, A5, A8, Ai, At, _, c1, _, c4, _, c5, _, c8, ci, _, ct, gl, off, c2, gm, _, rfl, k0, k1, k2, hlt⟩

set_option maxHeartbeats 8000000 in
set_option maxRecDepth 100000 in
theorem worksC_any (w : World) : Calls Try.prog 45 #[] w fun e w' => e = .returned (.bool true) ∧ Below w.heap.size w w' := by
  have HOF := Lib.hid (fun (wx : World) (a b c d : Nat) (hx : exC.In wx (exCV a b c d)) => exC_of wx a b c d hx)
  have HAL := Lib.hid (fun (wx : World) (a b c d : Nat) (hx : exC.In wx (exCV a b c d)) => (show Calls Try.prog 48 #[(exCV a b c d).val 5, .agg #[.int .u8 98, .int .i64 0], .agg #[.int .u8 98, .int .i64 1]] wx fun e w' => Below wx.heap.size wx w' ∧ e = .returned (.tuple #[.int .i64 0, .int .i64 2, .int .i64 0]) from by
    have h := AlikeB_any wx (exCV a b c d) exC 0 1 hx exC_ok
    rw [exC_alike] at h
    exact h))
  go_enter Try.func45, Try.ntmps45
  go_upto_region 2 with (fail)
  obtain ⟨W5, hW5⟩ : ∃ W5, (((((w.alloc (.cells #[.int .i64 2, .int .i64 4] 3)).alloc (.cells #[.int .i64 6, .int .i64 2, .int .i64 0, .int .i64 8, .int .i64 10, .int .i64 0] 114)).alloc (.cells #[.int .i64 6, .int .i64 8] 3)).alloc (.cells #[.int .i64 10, .int .i64 8, .int .i64 4] 43)).alloc (.cells ((exCV w.heap.size (w.heap.size + 1) (w.heap.size + 1 + 1) (w.heap.size + 1 + 1 + 1)).cells 5) 51)) = W5 := ⟨_, rfl⟩
  have hB5 : Below w.heap.size w W5 := by
    rw [← hW5]
    exact (((((Below.refl _ _).alloc (Nat.le_refl _) _).alloc (by simp) _).alloc (by simp; omega) _).alloc (by simp; omega) _).alloc (by simp; omega) _
  have hx0 : Blk W5 w.heap.size 3 #[.int .i64 2, .int .i64 4] := by rw [← hW5]; exact ((((Blk.new w _ _).alloc _).alloc _).alloc _).alloc _
  have hx1 : Blk W5 (w.heap.size + 1) 114 #[.int .i64 6, .int .i64 2, .int .i64 0, .int .i64 8, .int .i64 10, .int .i64 0] := by
    rw [← hW5]
    have h9 := Blk.new (w.alloc (.cells #[.int .i64 2, .int .i64 4] 3)) 114 #[.int .i64 6, .int .i64 2, .int .i64 0, .int .i64 8, .int .i64 10, .int .i64 0]
    rw [show (w.alloc (.cells #[.int .i64 2, .int .i64 4] 3)).heap.size = w.heap.size + 1 by simp] at h9
    exact ((h9.alloc _).alloc _).alloc _
  have hx2 : Blk W5 (w.heap.size + 1 + 1) 3 #[.int .i64 6, .int .i64 8] := by
    rw [← hW5]
    have h9 := Blk.new ((w.alloc (.cells #[.int .i64 2, .int .i64 4] 3)).alloc (.cells #[.int .i64 6, .int .i64 2, .int .i64 0, .int .i64 8, .int .i64 10, .int .i64 0] 114)) 3 #[.int .i64 6, .int .i64 8]
    rw [show ((w.alloc (.cells #[.int .i64 2, .int .i64 4] 3)).alloc (.cells #[.int .i64 6, .int .i64 2, .int .i64 0, .int .i64 8, .int .i64 10, .int .i64 0] 114)).heap.size = w.heap.size + 1 + 1 by simp] at h9
    exact (h9.alloc _).alloc _
  have hx3 : Blk W5 (w.heap.size + 1 + 1 + 1) 43 #[.int .i64 10, .int .i64 8, .int .i64 4] := by
    rw [← hW5]
    have h9 := Blk.new (((w.alloc (.cells #[.int .i64 2, .int .i64 4] 3)).alloc (.cells #[.int .i64 6, .int .i64 2, .int .i64 0, .int .i64 8, .int .i64 10, .int .i64 0] 114)).alloc (.cells #[.int .i64 6, .int .i64 8] 3)) 43 #[.int .i64 10, .int .i64 8, .int .i64 4]
    rw [show (((w.alloc (.cells #[.int .i64 2, .int .i64 4] 3)).alloc (.cells #[.int .i64 6, .int .i64 2, .int .i64 0, .int .i64 8, .int .i64 10, .int .i64 0] 114)).alloc (.cells #[.int .i64 6, .int .i64 8] 3)).heap.size = w.heap.size + 1 + 1 + 1 by simp] at h9
    exact h9.alloc _
  have hx4 : Blk W5 (w.heap.size + 1 + 1 + 1 + 1) 51 ((exCV w.heap.size (w.heap.size + 1) (w.heap.size + 1 + 1) (w.heap.size + 1 + 1 + 1)).cells 5) := by
    rw [← hW5]
    have h9 := Blk.new ((((w.alloc (.cells #[.int .i64 2, .int .i64 4] 3)).alloc (.cells #[.int .i64 6, .int .i64 2, .int .i64 0, .int .i64 8, .int .i64 10, .int .i64 0] 114)).alloc (.cells #[.int .i64 6, .int .i64 8] 3)).alloc (.cells #[.int .i64 10, .int .i64 8, .int .i64 4] 43)) 51 ((exCV w.heap.size (w.heap.size + 1) (w.heap.size + 1 + 1) (w.heap.size + 1 + 1 + 1)).cells 5)
    rw [show ((((w.alloc (.cells #[.int .i64 2, .int .i64 4] 3)).alloc (.cells #[.int .i64 6, .int .i64 2, .int .i64 0, .int .i64 8, .int .i64 10, .int .i64 0] 114)).alloc (.cells #[.int .i64 6, .int .i64 8] 3)).alloc (.cells #[.int .i64 10, .int .i64 8, .int .i64 4] 43)).heap.size = w.heap.size + 1 + 1 + 1 + 1 by simp] at h9
    exact h9
  have HA : Hid (∀ wz, Below W5.heap.size W5 wz → wz.heap[w.heap.size + 1 + 1 + 1 + 1]? = some (.cells ((exCV w.heap.size (w.heap.size + 1) (w.heap.size + 1 + 1) (w.heap.size + 1 + 1 + 1)).cells 5) 51 (0, 0)) ∧ exC.In wz (exCV w.heap.size (w.heap.size + 1) (w.heap.size + 1 + 1) (w.heap.size + 1 + 1 + 1))) := Lib.hid (fun wz hz => ⟨hx4.below hz hx4.lt, exC_in (hx0.below hz hx0.lt) (hx1.below hz hx1.lt) (hx2.below hz hx2.lt) (hx3.below hz hx3.lt)⟩)
  have HB5 := Lib.hid hB5
  have HH := Lib.hid (HA.out W5 (Below.refl _ _))
  have hp1 : ∀ wx : World, (Instr.build 81 #[(0, .int .u8 98)]).run Try.prog wx = .ok (.agg #[.int .u8 98, .int .i64 0]) wx := fun wx => run_build wx _ _ _ (by kernel_rfl)
  have hp2 : ∀ wx : World, (Instr.build 81 #[(0, .int .u8 98), (1, .int .i64 1)]).run Try.prog wx = .ok (.agg #[.int .u8 98, .int .i64 1]) wx := fun wx => run_build wx _ _ _ (by kernel_rfl)
  have hl1 : ∀ wx : World, (Instr.build 114 #[(0, .int .i64 4), (1, .int .i64 2)]).run Try.prog wx = .ok (.agg #[.int .i64 4, .int .i64 2, .int .i64 0]) wx := fun wx => run_build wx _ _ _ (by kernel_rfl)
  rw [show (((((w.alloc (.cells #[.int .i64 2, .int .i64 4] 3)).alloc (.cells #[.int .i64 6, .int .i64 2, .int .i64 0, .int .i64 8, .int .i64 10, .int .i64 0] 114)).alloc (.cells #[.int .i64 6, .int .i64 8] 3)).alloc (.cells #[.int .i64 10, .int .i64 8, .int .i64 4] 43)).alloc (.cells #[.int .i64 5, .slice (some ⟨w.heap.size, 0, none⟩) 2 2, .slice (some ⟨w.heap.size + 1, 0, none⟩) 2 2, .slice none 0 0, .slice (some ⟨w.heap.size + 1 + 1, 0, none⟩) 2 2, .slice none 0 0, .slice none 0 0, .slice none 0 0, .slice (some ⟨w.heap.size + 1 + 1 + 1, 0, none⟩) 1 1, .slice none 0 0, .slice none 0 0] 51)) = W5 from hW5]
  clear hB5 hx0 hx1 hx2 hx3 hx4 hW5
  go_upto_region 3 with (first
    | (refine wpList_load_row rfl 51 (.tmp 1) rfl (w.heap.size + 1 + 1 + 1 + 1) rfl 51 ((exCV w.heap.size (w.heap.size + 1) (w.heap.size + 1 + 1) (w.heap.size + 1 + 1 + 1)).cells 5) (0, 0) _ HH.out.1 Try.underlying51 rfl (by kernel_rfl) ?_)
    | (go_at_call 46; refine (HOF.out W5 _ _ _ _ HH.out.2).mono ?_; rintro e w6 ⟨hb6, A1, A4, A5, A8, Ai, At, n1, c1, n4, c4, n5, c5, n8, c8, ci, nt, ct, gl, off, cl, gm, mx, rfl, k0, k1, k2, hgl⟩; have HB6 := Lib.hid hb6; have HK := Lib.hid (And.intro k0 (And.intro k1 (And.intro k2 hgl))); clear hb6 k0 k1 k2 hgl))
  obtain ⟨W7, hW7⟩ : ∃ W7, w6.alloc (.cells #[.int .i64 mx, .slice A1 n1 c1, .slice (some ⟨gl, off, none⟩) 1 cl, .slice none 0 0, .slice A4 n4 c4, .slice A5 n5 c5, .slice none 0 0, .slice none 0 0, .slice A8 n8 c8, .slice none 0 0, .slice none 0 0, .slice (some ⟨gm, 0, none⟩) 6 6, .slice Ai 1 ci, .slice At nt ct] 83) = W7 := ⟨_, rfl⟩
  have hB67 : Below w6.heap.size w6 W7 := by rw [← hW7]; exact (Below.refl _ _).alloc (Nat.le_refl _) _
  have HB7 : Hid (Below W5.heap.size W5 W7) := Lib.hid (bt HB6.out (Nat.le_refl _) hB67)
  have hc7 : Blk W7 w6.heap.size 83 #[.int .i64 mx, .slice A1 n1 c1, .slice (some ⟨gl, off, none⟩) 1 cl, .slice none 0 0, .slice A4 n4 c4, .slice A5 n5 c5, .slice none 0 0, .slice none 0 0, .slice A8 n8 c8, .slice none 0 0, .slice none 0 0, .slice (some ⟨gm, 0, none⟩) 6 6, .slice Ai 1 ci, .slice At nt ct] := by rw [← hW7]; exact Blk.new w6 _ _
  have HC7 := Lib.hid hc7
  have HK7 : Hid (∀ wz, Below W7.heap.size W7 wz → wz.cell? ⟨w6.heap.size, 2, none⟩ = some (.slice (some ⟨gl, off, none⟩) 1 cl) ∧ wz.cell? ⟨w6.heap.size, 12, none⟩ = some (.slice Ai 1 ci) ∧ wz.cell? ⟨gl, off, none⟩ = some (.int .i64 4) ∧ wz.cell? ⟨gl, off + 1, none⟩ = some (.int .i64 2) ∧ wz.cell? ⟨gl, off + 2, none⟩ = some (.int .i64 0)) := Lib.hid (fun wz hz => by
    have q := HC7.out.below hz HC7.out.lt
    have hz2 : Below w6.heap.size w6 wz := bt hB67 (Nat.le_refl _) hz
    obtain ⟨k0, k1, k2, hgl⟩ := HK.out
    exact ⟨q.cell 2, q.cell 12, (hz2.cell (p := ⟨gl, off, none⟩) hgl).trans k0, (hz2.cell (p := ⟨gl, off + 1, none⟩) hgl).trans k1, (hz2.cell (p := ⟨gl, off + 2, none⟩) hgl).trans k2⟩)
  have HH7 := Lib.hid (HA.out W7 HB7.out)
  rw [hW7]
  obtain ⟨bk, hbk⟩ : ∃ bk, w6.heap.size = bk := ⟨_, rfl⟩
  rw [hbk] at HK7 ⊢
  clear hW7 hB67 hc7 HC7 HK hbk
  go_upto_region 4 with (first
    | (refine wpList_load_row rfl 51 (.tmp 1) rfl (w.heap.size + 1 + 1 + 1 + 1) rfl 51 ((exCV w.heap.size (w.heap.size + 1) (w.heap.size + 1 + 1) (w.heap.size + 1 + 1 + 1)).cells 5) (0, 0) _ HH7.out.1 Try.underlying51 rfl (by kernel_rfl) ?_)
    | (go_at_call 48; refine (HAL.out W7 _ _ _ _ HH7.out.2).mono ?_; rintro e w8 ⟨hb8, rfl⟩; have HB8 := Lib.hid hb8; clear hb8))
  obtain ⟨y2, y12, k0, k1, k2⟩ := HK7.out w8 HB8.out
  have HBE : Hid (Below w.heap.size w w8) := Lib.hid (bt HB5.out (Nat.le_refl _) (bt HB7.out (Nat.le_refl _) HB8.out))
  go_wp2
  go_ret
  exact ⟨rfl, HBE.out⟩
end Go.Proofs.Ytahjmkdpnkffhaa

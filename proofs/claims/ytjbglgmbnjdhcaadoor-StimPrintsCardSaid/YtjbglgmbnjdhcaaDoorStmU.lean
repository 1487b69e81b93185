/- The walk of StimBack. -/
import Derived.Test.YtjbglgmbnjdhcaaDoorStmQ
import Derived.Test.YtjbglgmbnjdhcaaDoorStmJ
namespace Go.Proofs.YtjbglgmbnjdhcaaDoor
open Go.RowKit

set_option maxHeartbeats 8000000 in
set_option maxRecDepth 100000 in
theorem SameTrace_any (w : World) (U U2 : TV) (t : Tr) (h : t.In w U) (h2 : t.In w U2) :
    Calls Tryd.prog 23 #[U.val t.loop, U2.val t.loop] w fun e w' => e = .returned (.bool true) ∧ Below w.heap.size w w' := by
  have hall : ∀ wz, Below ((w.alloc (.cells (U.cells t.loop) 26)).alloc (.cells (U2.cells t.loop) 26)).heap.size ((w.alloc (.cells (U.cells t.loop) 26)).alloc (.cells (U2.cells t.loop) 26)) wz →
      Blk wz w.heap.size 26 (U.cells t.loop) ∧ Blk wz (w.heap.size + 1) 26 (U2.cells t.loop) ∧ Below w.heap.size w wz := fun wz hb => by
    have h1 : Below w.heap.size w wz := (((Below.refl w.heap.size w).alloc (Nat.le_refl _) _).alloc (by simp) _).trans (hb.mono (by simp; omega))
    have e1 := ((Blk.new w 26 (U.cells t.loop)).alloc (.cells (U2.cells t.loop) 26)).below hb (by simp; omega)
    have e2 := (Blk.new (w.alloc (.cells (U.cells t.loop) 26)) 26 (U2.cells t.loop)).below hb (by simp)
    rw [show (w.alloc (.cells (U.cells t.loop) 26)).heap.size = w.heap.size + 1 by simp] at e2
    exact ⟨e1, e2, h1⟩
  have hx0 : Below ((w.alloc (.cells (U.cells t.loop) 26)).alloc (.cells (U2.cells t.loop) 26)).heap.size ((w.alloc (.cells (U.cells t.loop) 26)).alloc (.cells (U2.cells t.loop) 26)) ((w.alloc (.cells (U.cells t.loop) 26)).alloc (.cells (U2.cells t.loop) 26)) := Below.refl _ _
  have HSA := Lib.hid (fun (wx : World) (v u : Value) (zs : List Bool) (hx : RowE 1 encO wx v zs) (hy : RowE 1 encO wx u zs) => (show Calls Tryd.prog 35 #[v, u] wx fun e w' => e = .returned (.bool true) ∧ Below wx.heap.size wx w' from by have := SameO_any wx v u zs zs hx hy; rwa [decide_eq_true (rfl : zs = zs)] at this))
  have HII := Lib.hid (And.intro h.i h2.i)
  obtain ⟨AR, cR, eR, _, hrr⟩ := h.r.at_
  obtain ⟨BR, dR, fR, hrm, hss⟩ := h2.r.at_
  obtain ⟨AI, ni, cI, eI⟩ := slO_form h.i
  obtain ⟨BI, nj, dI, fI⟩ := slO_form h2.i
  obtain ⟨Ui, Ur⟩ := U
  obtain ⟨Ti, Tr'⟩ := U2
  simp only at eR fR eI fI
  subst eR fR eI fI
  obtain ⟨n, hn⟩ : ∃ n, t.rows.length = n := ⟨_, rfl⟩
  obtain ⟨lp, hlp⟩ : ∃ lp, t.loop = lp := ⟨_, rfl⟩
  rw [hn, hlp] at hall hx0
  rw [hn] at HII hrm
  rw [hn, hlp]
  have HALL := Lib.hid hall
  have HX := Lib.hid hx0
  have HRR := Lib.hid hrr
  have HSS := Lib.hid hss
  have HN := Lib.hid hn
  unfold maxLen at hrm
  clear h h2 hall hx0 hrr hss hn hlp
  obtain ⟨x0, x1, x2⟩ := trio_of (HALL.out _ HX.out).1
  obtain ⟨y0, y1, y2⟩ := trio_of (HALL.out _ HX.out).2.1
  have q1 : (lp != lp) = false := by simp
  have q2 : ((n : Int) != (n : Int)) = false := by simp
  go_enter Tryd.func23, Tryd.ntmps23
  go_wp2_with (go_at_call 35; go_loud (refine (HSA.out _ _ _ t.init (HII.out.1.below (HALL.out _ HX.out).2.2) (HII.out.2.below (HALL.out _ HX.out).2.2)).mono ?_; rintro e w2 ⟨rfl, hb⟩; have HXN := Lib.hid (bt HX.out (Nat.le_refl _) hb); clear HX hb x0 x1 x2 y0 y1 y2; have HX := HXN; clear HXN; obtain ⟨x0, x1, x2⟩ := trio_of (HALL.out _ HX.out).1; obtain ⟨y0, y1, y2⟩ := trio_of (HALL.out _ HX.out).2.1))
  generalize ((w.alloc (.cells #[.slice AI ni cI, .slice AR n cR, .int .i64 lp] 26)).alloc (.cells #[.slice BI nj dI, .slice BR n dR, .int .i64 lp] 26)) = W0 at HALL HX
  go_loopg [5] n (fun j iv wr => ∃ k : Nat, k ≤ n ∧ iv = .int .i64 k ∧ j = n - k ∧ Below W0.heap.size W0 wr)
  case atStart => exact ⟨0, Nat.zero_le _, rfl, rfl, HX.out⟩
  case round =>
    obtain ⟨k, hk, rfl, hgk, hbw⟩ := hrel
    subst hgk
    clear HX x0 x1 x2 y0 y1 y2
    have HX := Lib.hid hbw
    clear hbw
    obtain ⟨x0, x1, x2⟩ := trio_of (HALL.out _ HX.out).1
    obtain ⟨y0, y1, y2⟩ := trio_of (HALL.out _ HX.out).2.1
    by_cases hlt : k < n
    · obtain ⟨row, hz⟩ : ∃ row, t.rows[k]? = some row := ⟨_, List.getElem?_eq_getElem (by rw [HN.out]; exact hlt)⟩
      obtain ⟨rb, ro, u, e, hrb, hu, hru⟩ := HRR.out k row hz
      subst e
      obtain ⟨sb, so, v, e, hsb, hv, hsv⟩ := HSS.out k row hz
      subst e
      obtain ⟨uA, un, uc, hue⟩ := slO_form hru
      subst hue
      obtain ⟨vA, vn, vc, hve⟩ := slO_form hsv
      subst hve
      have HRU := Lib.hid (And.intro hru hsv)
      have HCL : Hid (∀ wz, Below wr.heap.size wr wz → (wz.cell? ⟨w.heap.size, 1, none⟩ = some (.slice (some ⟨rb, ro, none⟩) n cR) ∧ wz.cell? ⟨w.heap.size + 1, 1, none⟩ = some (.slice (some ⟨sb, so, none⟩) n dR) ∧ wz.cell? ⟨rb, ro + k, none⟩ = some (.slice uA un uc) ∧ wz.cell? ⟨sb, so + k, none⟩ = some (.slice vA vn vc)) ∧ RowE 1 encO wz (.slice uA un uc) row ∧ RowE 1 encO wz (.slice vA vn vc) row) := Lib.hid (fun wz hb => by
        have h1 := bt HX.out (Nat.le_refl _) hb
        obtain ⟨_, e1, _⟩ := trio_of (HALL.out _ h1).1
        obtain ⟨_, f1, _⟩ := trio_of (HALL.out _ h1).2.1
        have h3 := (HALL.out _ h1).2.2
        exact ⟨⟨e1, f1, (h3.cell (p := ⟨rb, ro + k, none⟩) hrb).trans hu, (h3.cell (p := ⟨sb, so + k, none⟩) hsb).trans hv⟩, HRU.out.1.below h3, HRU.out.2.below h3⟩)
      have hk0 : (0 : Int) ≤ (k : Int) := by omega
      have hk1 : (k : Int) < (n : Int) := by omega
      clear hz hu hv hru hsv hrb hsb
      go_upto_region 6 with (fail)
      refine wp_region_quiet (C := fun wz => Below wr.heap.size wr wz) (by kernel_rfl) (by kernel_rfl) (Below.refl wr.heap.size wr).drew ?_
      simp only
      repeat
        first
          | go_big_quiet_skip
          | (refine wpQuiet_step (fun K hK => ?_)
             rw [if_pos (by rfl)]
             unfold Oper.quiet
             apply Exists.intro
             refine And.intro (fun wx hWx => ?_) (hK _ ?_)
             · obtain ⟨⟨e1, f1, g1, g2⟩, g3, g4⟩ := HCL.out wx hWx
               first
                 | (go_simp; exact rfl)
                 | (go_simp; go_at_call 35; refine (HSA.out _ _ _ row g3 g4).mono ?_; rintro e w' ⟨rfl, hb'⟩; exact ⟨rfl, bt hWx (Nat.le_refl _) hb'⟩)
             clear hK K
             try simp only [Act.put, List.setIfInBounds_toArray, List.set_cons_zero, List.set_cons_succ])
      refine wpQuiet_nil ?_
      intro w5 hw5
      have HW5 := Lib.hid hw5
      clear hw5
      go_wp2
      go_roundg (n - (k + 1))
      case measure => omega
      case rel => exact ⟨k + 1, by omega, by go_num, rfl, bt HX.out (Nat.le_refl _) HW5.out⟩
    · go_wp2
      go_ret
      exact ⟨rfl, (HALL.out _ HX.out).2.2⟩
set_option maxHeartbeats 4000000 in
set_option maxRecDepth 100000 in
theorem sameW_any (w : World) (x : Wit) (vp vi vr up ui ur : Value) (h : WtIn w x vp vi vr) (h2 : WtIn w x up ui ur) :
    Calls Tryd.prog 11 #[.agg #[.int .i64 x.st, vp, vi, vr, .int .i64 x.tr.loop], .agg #[.int .i64 x.st, up, ui, ur, .int .i64 x.tr.loop]] w fun e w' => e = .returned (.bool true) ∧ Below w.heap.size w w' := by
  have HST := Lib.hid (fun (wx : World) (hb : Below w.heap.size w wx) => SameTrace_any wx ⟨vi, vr⟩ ⟨ui, ur⟩ x.tr (h.t.below hb) (h2.t.below hb))
  obtain ⟨AP, cP, eP, hat⟩ := prop_at h.p
  obtain ⟨AR, cR, eR, _, _⟩ := h.t.r.at_
  obtain ⟨AI, nI, cI, eI⟩ := slO_form h.t.i
  obtain ⟨BP, dP, fP, hbt⟩ := prop_at h2.p
  obtain ⟨BR, dR, fR, _, _⟩ := h2.t.r.at_
  obtain ⟨BI, mI, dI, fI⟩ := slO_form h2.t.i
  simp only at eR eI fR fI
  subst eP eR eI fP fR fI
  obtain ⟨nR, hnR⟩ : ∃ k, x.tr.rows.length = k := ⟨_, rfl⟩
  obtain ⟨np, hnp⟩ : ∃ k, x.ps.length = k := ⟨_, rfl⟩
  obtain ⟨st, hst⟩ : ∃ k, x.st = k := ⟨_, rfl⟩
  obtain ⟨lp, hlp⟩ : ∃ k, x.tr.loop = k := ⟨_, rfl⟩
  have hml : x.ps.length ≤ maxLen := h.p.len
  unfold maxLen at hml
  rw [hnp] at hml
  rw [hlp, hnR] at HST
  rw [hst, hlp, hnR, hnp]
  have HN := Lib.hid hnp
  have HAT := Lib.hid hat
  have HBT := Lib.hid hbt
  have HA := Lib.hid ((Blk.new w 28 #[.int .i64 st, .slice AP np cP, .slice AI nI cI, .slice AR nR cR, .int .i64 lp]).alloc (.cells #[.int .i64 st, .slice BP np dP, .slice BI mI dI, .slice BR nR dR, .int .i64 lp] 28))
  have HA2 : Hid (Blk ((w.alloc (.cells #[.int .i64 st, .slice AP np cP, .slice AI nI cI, .slice AR nR cR, .int .i64 lp] 28)).alloc (.cells #[.int .i64 st, .slice BP np dP, .slice BI mI dI, .slice BR nR dR, .int .i64 lp] 28)) (w.heap.size + 1) 28 #[.int .i64 st, .slice BP np dP, .slice BI mI dI, .slice BR nR dR, .int .i64 lp]) := Lib.hid (by
    have := Blk.new (w.alloc (.cells #[.int .i64 st, .slice AP np cP, .slice AI nI cI, .slice AR nR cR, .int .i64 lp] 28)) 28 #[.int .i64 st, .slice BP np dP, .slice BI mI dI, .slice BR nR dR, .int .i64 lp]
    simpa using this)
  have HB : Hid (Below w.heap.size w ((w.alloc (.cells #[.int .i64 st, .slice AP np cP, .slice AI nI cI, .slice AR nR cR, .int .i64 lp] 28)).alloc (.cells #[.int .i64 st, .slice BP np dP, .slice BI mI dI, .slice BR nR dR, .int .i64 lp] 28))) := Lib.hid (((Below.refl _ _).alloc (Nat.le_refl _) _).alloc (by simp) _)
  clear h h2 hat hbt hnR hnp hst hlp
  go_enter Tryd.func11, Tryd.ntmps11
  go_upto_region 1 with (fail)
  generalize ((w.alloc (.cells #[.int .i64 st, .slice AP np cP, .slice AI nI cI, .slice AR nR cR, .int .i64 lp] 28)).alloc (.cells #[.int .i64 st, .slice BP np dP, .slice BI mI dI, .slice BR nR dR, .int .i64 lp] 28)) = X at HA HA2 HB ⊢
  obtain ⟨c0, c1, c2, c3, c4⟩ := five_of HA.out
  obtain ⟨d0, d1, d2, d3, d4⟩ := five_of HA2.out
  go_upto_region 4 with (go_at_call 23; refine (HST.out X HB.out).mono ?_; rintro e w2 ⟨rfl, hb2⟩; have HB2 := Lib.hid (bt HB.out (Nat.le_refl _) hb2); have HC := Lib.hid (Blk.below HA.out hb2 (Blk.lt HA.out)); have HD := Lib.hid (Blk.below HA2.out hb2 (Blk.lt HA2.out)); clear hb2)
  clear c0 c1 c2 c3 c4 d0 d1 d2 d3 d4
  go_loopg [5] np (fun j iv wx => ∃ k : Nat, k ≤ np ∧ iv = .int .i64 k ∧ j = np - k ∧ Below w2.heap.size w2 wx)
  case atStart => exact ⟨0, Nat.zero_le _, rfl, rfl, Below.refl _ _⟩
  case round =>
    obtain ⟨k, hk, rfl, hgk, hbw⟩ := hrel
    subst hgk
    have HBW := Lib.hid hbw
    have HB3 := Lib.hid (bt HB2.out (Nat.le_refl _) hbw)
    obtain ⟨c0, c1, c2, c3, c4⟩ := five_of (Blk.below HC.out hbw (Blk.lt HC.out))
    obtain ⟨d0, d1, d2, d3, d4⟩ := five_of (Blk.below HD.out hbw (Blk.lt HD.out))
    by_cases hlt : k < np
    · obtain ⟨p, hp⟩ : ∃ p, x.ps[k]? = some p := ⟨_, List.getElem?_eq_getElem (by rw [HN.out]; exact hlt)⟩
      obtain ⟨b, off, rfl, hb, h0, h1⟩ := HAT.out k p hp
      obtain ⟨b2, off2, rfl, hb2, g0, g1⟩ := HBT.out k p hp
      obtain ⟨kd, pa⟩ := p
      simp only at h0 h1 g0 g1
      have hk0 : (0 : Int) ≤ (k : Int) := by omega
      have hk1 : (k : Int) < (np : Int) := by omega
      have s0 := (HB3.out.cell (p := ⟨b, off + k * 2, none⟩) hb).trans h0
      have s1 := (HB3.out.cell (p := ⟨b, off + k * 2 + 1, none⟩) hb).trans h1
      have t0 := (HB3.out.cell (p := ⟨b2, off2 + k * 2, none⟩) hb2).trans g0
      have t1 := (HB3.out.cell (p := ⟨b2, off2 + k * 2 + 1, none⟩) hb2).trans g1
      clear hp h0 h1 g0 g1 hb hb2 hbw
      go_upto_region 6 with (fail)
      have hdw := (Below.refl wr.heap.size wr).drew
      refine wp_region_T (by kernel_rfl) (fun w' => (w'.cell? ⟨w.heap.size, 1, none⟩ = some (.slice (some ⟨b, off, none⟩) np cP) ∧ w'.cell? ⟨w.heap.size + 1, 1, none⟩ = some (.slice (some ⟨b2, off2, none⟩) np dP)) ∧ (w'.cell? ⟨b, off + k * 2, none⟩ = some (.int .u8 kd) ∧ w'.cell? ⟨b, off + k * 2 + 1, none⟩ = some (.int .i64 pa)) ∧ w'.cell? ⟨b2, off2 + k * 2, none⟩ = some (.int .u8 kd) ∧ w'.cell? ⟨b2, off2 + k * 2 + 1, none⟩ = some (.int .i64 pa)) 11 ?_
      have HB4 : Hid (Below w2.heap.size w2 wr.drew) := Lib.hid (bt HBW.out (Nat.le_refl _) hdw)
      have hHeld := And.intro (And.intro c1 d1) (And.intro (And.intro s0 s1) (And.intro t0 t1))
      clear c0 c1 c2 c3 c4 d0 d1 d2 d3 d4 s0 s1 t0 t1 hdw
      refine wpAnyT_take (i := 0) (oi := { dst := some 35, op := Op.fieldAddr 28 (Operand.tmp 2) 1, type := 0, pos := "law.go:20", after := #[], guard := none }) (v := ?v0r6q1) rfl (by kernel_rfl) (fun _ _ _ h => h) (by rfl) hHeld ?h0r6q1 ?_
      case h0r6q1 => (intro w' hSw; (try dsimp only at hSw); go_simp; try with_reducible rfl)
      (try simp only [Act.put, List.setIfInBounds_toArray, List.set_cons_zero, List.set_cons_succ])
      refine wpAnyT_take (i := 1) (oi := { dst := some 36, op := Op.load 22 (Operand.tmp 35), type := 22, pos := "law.go:20", after := #[{ on := 0, ground := Ground.data }], guard := none }) (v := ?v1r6q1) rfl (by kernel_rfl) (fun _ _ _ h => h) (by rfl) hHeld ?h1r6q1 ?_
      case h1r6q1 => (intro w' hSw; (try dsimp only at hSw); go_simp; try with_reducible rfl)
      (try simp only [Act.put, List.setIfInBounds_toArray, List.set_cons_zero, List.set_cons_succ])
      refine wpAnyT_take (i := 2) (oi := { dst := some 37, op := Op.move (Operand.tmp 5), type := 3, pos := "law.go:20", after := #[], guard := none }) (v := ?v2r6q1) rfl (by kernel_rfl) (fun _ _ _ h => h) (by rfl) hHeld ?h2r6q1 ?_
      case h2r6q1 => (intro w' hSw; (try dsimp only at hSw); go_simp; try with_reducible rfl)
      (try simp only [Act.put, List.setIfInBounds_toArray, List.set_cons_zero, List.set_cons_succ])
      refine wpAnyT_take (i := 3) (oi := { dst := some 38, op := Op.indexAddr 22 (Operand.tmp 36) (Operand.tmp 37), type := 0, pos := "law.go:20", after := #[{ on := 1, ground := Ground.data }, { on := 2, ground := Ground.data }], guard := none }) (v := ?v3r6q1) rfl (by kernel_rfl) (fun _ _ _ h => h) (by rfl) hHeld ?h3r6q1 ?_
      case h3r6q1 => (intro w' hSw; (try dsimp only at hSw); go_simp; try with_reducible rfl)
      (try simp only [Act.put, List.setIfInBounds_toArray, List.set_cons_zero, List.set_cons_succ])
      refine wpAnyT_take (i := 4) (oi := { dst := some 39, op := Op.load 57 (Operand.tmp 38), type := 57, pos := "law.go:20", after := #[{ on := 3, ground := Ground.data }], guard := none }) (v := ?v4r6q1) rfl (by kernel_rfl) (fun _ _ _ h => h) (by rfl) hHeld ?h4r6q1 ?_
      case h4r6q1 => (intro w' hSw; (try dsimp only at hSw); go_simp; try with_reducible rfl)
      (try simp only [Act.put, List.setIfInBounds_toArray, List.set_cons_zero, List.set_cons_succ])
      refine wpAnyT_take (i := 5) (oi := { dst := some 40, op := Op.fieldAddr 28 (Operand.tmp 3) 1, type := 0, pos := "law.go:20", after := #[], guard := none }) (v := ?v5r6q1) rfl (by kernel_rfl) (fun _ _ _ h => h) (by rfl) hHeld ?h5r6q1 ?_
      case h5r6q1 => (intro w' hSw; (try dsimp only at hSw); go_simp; try with_reducible rfl)
      (try simp only [Act.put, List.setIfInBounds_toArray, List.set_cons_zero, List.set_cons_succ])
      refine wpAnyT_take (i := 6) (oi := { dst := some 41, op := Op.load 22 (Operand.tmp 40), type := 22, pos := "law.go:20", after := #[{ on := 5, ground := Ground.data }], guard := none }) (v := ?v6r6q1) rfl (by kernel_rfl) (fun _ _ _ h => h) (by rfl) hHeld ?h6r6q1 ?_
      case h6r6q1 => (intro w' hSw; (try dsimp only at hSw); go_simp; try with_reducible rfl)
      (try simp only [Act.put, List.setIfInBounds_toArray, List.set_cons_zero, List.set_cons_succ])
      refine wpAnyT_take (i := 7) (oi := { dst := some 42, op := Op.move (Operand.tmp 5), type := 3, pos := "law.go:20", after := #[], guard := none }) (v := ?v7r6q1) rfl (by kernel_rfl) (fun _ _ _ h => h) (by rfl) hHeld ?h7r6q1 ?_
      case h7r6q1 => (intro w' hSw; (try dsimp only at hSw); go_simp; try with_reducible rfl)
      (try simp only [Act.put, List.setIfInBounds_toArray, List.set_cons_zero, List.set_cons_succ])
      refine wpAnyT_take (i := 8) (oi := { dst := some 43, op := Op.indexAddr 22 (Operand.tmp 41) (Operand.tmp 42), type := 0, pos := "law.go:20", after := #[{ on := 6, ground := Ground.data }, { on := 7, ground := Ground.data }], guard := none }) (v := ?v8r6q1) rfl (by kernel_rfl) (fun _ _ _ h => h) (by rfl) hHeld ?h8r6q1 ?_
      case h8r6q1 => (intro w' hSw; (try dsimp only at hSw); go_simp; try with_reducible rfl)
      (try simp only [Act.put, List.setIfInBounds_toArray, List.set_cons_zero, List.set_cons_succ])
      refine wpAnyT_take (i := 9) (oi := { dst := some 44, op := Op.load 57 (Operand.tmp 43), type := 57, pos := "law.go:20", after := #[{ on := 8, ground := Ground.data }], guard := none }) (v := ?v9r6q1) rfl (by kernel_rfl) (fun _ _ _ h => h) (by rfl) hHeld ?h9r6q1 ?_
      case h9r6q1 => (intro w' hSw; (try dsimp only at hSw); go_simp; try with_reducible rfl)
      (try simp only [Act.put, List.setIfInBounds_toArray, List.set_cons_zero, List.set_cons_succ])
      refine wpAnyT_take (i := 10) (oi := { dst := some 45, op := Op.binOp BinOp.neq 57 (Operand.tmp 39) (Operand.tmp 44) 57, type := 4, pos := "law.go:20", after := #[{ on := 4, ground := Ground.data }, { on := 9, ground := Ground.data }], guard := none }) (v := ?v10r6q1) rfl (by kernel_rfl) (fun _ _ _ h => h) (by rfl) hHeld ?h10r6q1 ?_
      case h10r6q1 => (intro w' hSw; (try dsimp only at hSw); go_simp; try with_reducible rfl)
      (try simp only [Act.put, List.setIfInBounds_toArray, List.set_cons_zero, List.set_cons_succ])
      refine wpAnyT_done (by kernel_rfl) ?_
      go_wp2
      go_roundg (np - (k + 1))
      case measure => omega
      case rel => exact ⟨k + 1, by omega, by go_num, rfl, HB4.out⟩
    · have hk1 : ¬ (k : Int) < (np : Int) := by omega
      clear hbw
      go_wp2
      go_ret
      exact ⟨by simp, HB3.out⟩
end Go.Proofs.YtjbglgmbnjdhcaaDoor

namespace Go.Proofs.YtjbglgmbnjdhcaaDoor
open Go.RowKit

theorem Blk.new_ (w : World) (t : TypeId) (cs : Array Value) (g : Nat) (h : w.heap.size = g) : Blk (w.alloc (.cells cs t)) g t cs := by
  subst h
  exact Blk.new w t cs
theorem blk_own {w : World} {g B n k : Nat} {t : TypeId} {cs : Array Value} (h : Blk w g t cs) (hB : B ≤ g) (hl : cs.size = n * k) (hm : n ≤ maxLen) : w.ownsRow B t k (.slice (some ⟨g, 0, none⟩) n n) n cs.toList := by
  refine ⟨by simpa using hl, .inr ⟨g, n, cs, rfl, hB, h, Nat.le_refl _, hm, hl, ?_⟩⟩
  rw [List.take_of_length_le (by simp [hl])]
def exW : Wit := ⟨1, [(98, 0)], ⟨[false], [[], []], 1⟩⟩
def exT : Bs := [49, 10, 98, 48, 10, 48, 10, 10, 10, 99, 32, 108, 111, 111, 112, 32, 49, 10, 46, 10]
theorem exT_eq : textW exW = exT := by
  have h0 : dec 0 = [48] := dec_small (by omega)
  have h1 : dec 1 = [49] := dec_small (by omega)
  simp [textW, exW, lineL, propsL, propW, Lib.join_one, h0, h1, rowsL, loopL, bitsB, loopW, exT]
theorem exE : witE exW 1 0 = 0 := by decide
theorem exP : prW exW 1 0 = (exT, 0) := by
  unfold prW
  rw [exE, exT_eq]
  rfl
theorem txE_ok {L n : Int} {s : Bs} (hl : s.length ≤ 262144) (hc : 0 ≤ L ∧ L ≤ 16384 ∧ 0 ≤ n ∧ n ≤ 16384) : txE s L n = 0 := by
  unfold txE
  rw [if_neg (by omega), if_neg (by rw [cntB_iff, decide_eq_true hc]; decide)]
/-- A witness that may be is read as it was written. -/
theorem read_text {x : Wit} {L n : Int} (h : witE x L n = 0) (hl : (textW x).length ≤ 262144) : readW L n (textW x) = some x := by
  unfold readW
  rw [if_pos (txE_ok hl (witE_ok h).2)]
  have := parse_text h []
  rw [List.append_nil] at this
  rw [this]
  rfl
theorem exR : readW 1 0 exT = some exW := by
  have := read_text exE (by rw [exT_eq]; decide)
  rwa [exT_eq] at this
theorem OwnW.slices {w : World} {B : Nat} {x : Wit} {vp vi vr : Value} (h : OwnW w B x vp vi vr) : ∃ A1 n1 k1 A2 n2 k2 A3 n3 k3, vp = .slice A1 n1 k1 ∧ vi = .slice A2 n2 k2 ∧ vr = .slice A3 n3 k3 := by
  obtain ⟨A1, k1, he1⟩ := own_slice_k h.p
  obtain ⟨A2, k2, he2⟩ := own_slice_k h.t.i
  obtain ⟨us, _, hr, _⟩ := h.t.ex
  obtain ⟨A3, k3, he3⟩ := own_slice_k hr
  exact ⟨A1, _, k1, A2, _, k2, A3, _, k3, he1, he2, he3⟩
set_option maxHeartbeats 4000000 in
set_option maxRecDepth 100000 in
theorem works_any (w : World) (B : Nat) (lib : LibB B w) (hB : B ≤ w.heap.size) : Calls Tryd.prog 12 #[] w fun e w' => e = .returned (.bool true) ∧ Below w.heap.size w w' := by
  have HPR : Hid (∀ (wx : World) (vp vi vr : Value), Below w.heap.size w wx → WtIn wx exW vp vi vr → Calls Tryd.prog 7 #[.agg #[.int .i64 1, vp, vi, vr, .int .i64 1], .int .i64 1, .int .i64 0] wx fun e w' => e = .returned (.tuple #[.string ⟨#[49, 10, 98, 48, 10, 48, 10, 10, 10, 99, 32, 108, 111, 111, 112, 32, 49, 10, 46, 10]⟩, .int .i64 0]) ∧ Below wx.heap.size wx w') := Lib.hid (fun wx vp vi vr hb h => by
    have := print_any wx B exW vp vi vr h (by intro p hp; simp only [exW, List.mem_singleton] at hp; subst hp; exact ⟨⟨by omega, by omega⟩, by unfold I64; omega⟩) 1 0 (lib.up hB hb) (Nat.le_trans hB hb.size)
    rw [exP] at this
    exact this)
  have HRD : Hid (∀ (wx : World), Below w.heap.size w wx → Calls Tryd.prog 13 #[.string ⟨#[49, 10, 98, 48, 10, 48, 10, 10, 10, 99, 32, 108, 111, 111, 112, 32, 49, 10, 46, 10]⟩, .int .i64 1, .int .i64 0] wx (RdPost wx exT (some exW))) := Lib.hid (fun wx hb => by
    have := read_any wx B exT 1 0 (lib.up hB hb) (Nat.le_trans hB hb.size)
    rw [exR] at this
    exact this)
  have HSM : Hid (∀ (wx : World) (vp vi vr up ui ur : Value), WtIn wx exW vp vi vr → WtIn wx exW up ui ur → Calls Tryd.prog 11 #[.agg #[.int .i64 1, vp, vi, vr, .int .i64 1], .agg #[.int .i64 1, up, ui, ur, .int .i64 1]] wx fun e w' => e = .returned (.bool true) ∧ Below wx.heap.size wx w') := Lib.hid (fun wx vp vi vr up ui ur h h2 => sameW_any wx exW vp vi vr up ui ur h h2)
  clear lib
  have HB : Hid (Below w.heap.size w ((((((w.alloc (.cells #[.int .u8 98, .int .i64 0] 57)).alloc (.cells #[.bool false] 4)).alloc (.cells #[] 4)).alloc (.cells #[] 4)).alloc (.cells #[.slice (some ⟨w.heap.size + 1 + 1, 0, none⟩) 0 0, .slice (some ⟨w.heap.size + 1 + 1 + 1, 0, none⟩) 0 0] 23)).alloc (.cells #[.int .i64 1, .slice (some ⟨w.heap.size, 0, none⟩) 1 1, .slice (some ⟨w.heap.size + 1, 0, none⟩) 1 1, .slice (some ⟨w.heap.size + 1 + 1 + 1 + 1, 0, none⟩) 2 2, .int .i64 1] 28))) := Lib.hid ((((((( Below.refl w.heap.size w).alloc (Nat.le_refl _) _).alloc (by simp) _).alloc (by simp; omega) _).alloc (by simp; omega) _).alloc (by simp; omega) _).alloc (by simp; omega) _)
  have HX : Hid (Blk ((((((w.alloc (.cells #[.int .u8 98, .int .i64 0] 57)).alloc (.cells #[.bool false] 4)).alloc (.cells #[] 4)).alloc (.cells #[] 4)).alloc (.cells #[.slice (some ⟨w.heap.size + 1 + 1, 0, none⟩) 0 0, .slice (some ⟨w.heap.size + 1 + 1 + 1, 0, none⟩) 0 0] 23)).alloc (.cells #[.int .i64 1, .slice (some ⟨w.heap.size, 0, none⟩) 1 1, .slice (some ⟨w.heap.size + 1, 0, none⟩) 1 1, .slice (some ⟨w.heap.size + 1 + 1 + 1 + 1, 0, none⟩) 2 2, .int .i64 1] 28)) (w.heap.size + 1 + 1 + 1 + 1 + 1) 28 #[.int .i64 1, .slice (some ⟨w.heap.size, 0, none⟩) 1 1, .slice (some ⟨w.heap.size + 1, 0, none⟩) 1 1, .slice (some ⟨w.heap.size + 1 + 1 + 1 + 1, 0, none⟩) 2 2, .int .i64 1]) := Lib.hid (Blk.new_ _ _ _ _ (by simp))
  have HIN : Hid (WtIn ((((((w.alloc (.cells #[.int .u8 98, .int .i64 0] 57)).alloc (.cells #[.bool false] 4)).alloc (.cells #[] 4)).alloc (.cells #[] 4)).alloc (.cells #[.slice (some ⟨w.heap.size + 1 + 1, 0, none⟩) 0 0, .slice (some ⟨w.heap.size + 1 + 1 + 1, 0, none⟩) 0 0] 23)).alloc (.cells #[.int .i64 1, .slice (some ⟨w.heap.size, 0, none⟩) 1 1, .slice (some ⟨w.heap.size + 1, 0, none⟩) 1 1, .slice (some ⟨w.heap.size + 1 + 1 + 1 + 1, 0, none⟩) 2 2, .int .i64 1] 28)) exW (.slice (some ⟨w.heap.size, 0, none⟩) 1 1) (.slice (some ⟨w.heap.size + 1, 0, none⟩) 1 1) (.slice (some ⟨w.heap.size + 1 + 1 + 1 + 1, 0, none⟩) 2 2)) := Lib.hid (by
    have b0 : Blk ((((((w.alloc (.cells #[.int .u8 98, .int .i64 0] 57)).alloc (.cells #[.bool false] 4)).alloc (.cells #[] 4)).alloc (.cells #[] 4)).alloc (.cells #[.slice (some ⟨w.heap.size + 1 + 1, 0, none⟩) 0 0, .slice (some ⟨w.heap.size + 1 + 1 + 1, 0, none⟩) 0 0] 23)).alloc (.cells #[.int .i64 1, .slice (some ⟨w.heap.size, 0, none⟩) 1 1, .slice (some ⟨w.heap.size + 1, 0, none⟩) 1 1, .slice (some ⟨w.heap.size + 1 + 1 + 1 + 1, 0, none⟩) 2 2, .int .i64 1] 28)) w.heap.size 57 #[.int .u8 98, .int .i64 0] := ((((((Blk.new_ _ _ _ _ rfl).alloc _).alloc _).alloc _).alloc _).alloc _)
    have b1 : Blk ((((((w.alloc (.cells #[.int .u8 98, .int .i64 0] 57)).alloc (.cells #[.bool false] 4)).alloc (.cells #[] 4)).alloc (.cells #[] 4)).alloc (.cells #[.slice (some ⟨w.heap.size + 1 + 1, 0, none⟩) 0 0, .slice (some ⟨w.heap.size + 1 + 1 + 1, 0, none⟩) 0 0] 23)).alloc (.cells #[.int .i64 1, .slice (some ⟨w.heap.size, 0, none⟩) 1 1, .slice (some ⟨w.heap.size + 1, 0, none⟩) 1 1, .slice (some ⟨w.heap.size + 1 + 1 + 1 + 1, 0, none⟩) 2 2, .int .i64 1] 28)) (w.heap.size + 1) 4 #[.bool false] := (((((Blk.new_ _ _ _ _ (by simp)).alloc _).alloc _).alloc _).alloc _)
    have b2 : Blk ((((((w.alloc (.cells #[.int .u8 98, .int .i64 0] 57)).alloc (.cells #[.bool false] 4)).alloc (.cells #[] 4)).alloc (.cells #[] 4)).alloc (.cells #[.slice (some ⟨w.heap.size + 1 + 1, 0, none⟩) 0 0, .slice (some ⟨w.heap.size + 1 + 1 + 1, 0, none⟩) 0 0] 23)).alloc (.cells #[.int .i64 1, .slice (some ⟨w.heap.size, 0, none⟩) 1 1, .slice (some ⟨w.heap.size + 1, 0, none⟩) 1 1, .slice (some ⟨w.heap.size + 1 + 1 + 1 + 1, 0, none⟩) 2 2, .int .i64 1] 28)) (w.heap.size + 1 + 1) 4 #[] := ((((Blk.new_ _ _ _ _ (by simp)).alloc _).alloc _).alloc _)
    have b3 : Blk ((((((w.alloc (.cells #[.int .u8 98, .int .i64 0] 57)).alloc (.cells #[.bool false] 4)).alloc (.cells #[] 4)).alloc (.cells #[] 4)).alloc (.cells #[.slice (some ⟨w.heap.size + 1 + 1, 0, none⟩) 0 0, .slice (some ⟨w.heap.size + 1 + 1 + 1, 0, none⟩) 0 0] 23)).alloc (.cells #[.int .i64 1, .slice (some ⟨w.heap.size, 0, none⟩) 1 1, .slice (some ⟨w.heap.size + 1, 0, none⟩) 1 1, .slice (some ⟨w.heap.size + 1 + 1 + 1 + 1, 0, none⟩) 2 2, .int .i64 1] 28)) (w.heap.size + 1 + 1 + 1) 4 #[] := (((Blk.new_ _ _ _ _ (by simp)).alloc _).alloc _)
    have b4 : Blk ((((((w.alloc (.cells #[.int .u8 98, .int .i64 0] 57)).alloc (.cells #[.bool false] 4)).alloc (.cells #[] 4)).alloc (.cells #[] 4)).alloc (.cells #[.slice (some ⟨w.heap.size + 1 + 1, 0, none⟩) 0 0, .slice (some ⟨w.heap.size + 1 + 1 + 1, 0, none⟩) 0 0] 23)).alloc (.cells #[.int .i64 1, .slice (some ⟨w.heap.size, 0, none⟩) 1 1, .slice (some ⟨w.heap.size + 1, 0, none⟩) 1 1, .slice (some ⟨w.heap.size + 1 + 1 + 1 + 1, 0, none⟩) 2 2, .int .i64 1] 28)) (w.heap.size + 1 + 1 + 1 + 1) 23 #[.slice (some ⟨w.heap.size + 1 + 1, 0, none⟩) 0 0, .slice (some ⟨w.heap.size + 1 + 1 + 1, 0, none⟩) 0 0] := ((Blk.new_ _ _ _ _ (by simp)).alloc _)
    refine OwnW.in_ (B := w.heap.size) ⟨blk_own b0 (Nat.le_refl _) rfl (by decide), blk_own b1 (by omega) rfl (by decide), [.slice (some ⟨w.heap.size + 1 + 1, 0, none⟩) 0 0, .slice (some ⟨w.heap.size + 1 + 1 + 1, 0, none⟩) 0 0], rfl, blk_own b4 (by omega) rfl (by decide), fun i u zs hu hz => ?_⟩
    match i, hu, hz with
    | 0, hu, hz =>
      injection hu with hu
      injection hz with hz
      subst hu hz
      exact blk_own b2 (by omega) rfl (by decide)
    | 1, hu, hz =>
      injection hu with hu
      injection hz with hz
      subst hu hz
      exact blk_own b3 (by omega) rfl (by decide)
    | i + 2, hu, _ => simp at hu)
  go_enter Tryd.func12, Tryd.ntmps12
  go_upto_region 2 with (fail)
  generalize (((((w.alloc (.cells #[.int .u8 98, .int .i64 0] 57)).alloc (.cells #[.bool false] 4)).alloc (.cells #[] 4)).alloc (.cells #[] 4)).alloc (.cells #[.slice (some ⟨w.heap.size + 1 + 1, 0, none⟩) 0 0, .slice (some ⟨w.heap.size + 1 + 1 + 1, 0, none⟩) 0 0] 23)).alloc (.cells #[.int .i64 1, .slice (some ⟨w.heap.size, 0, none⟩) 1 1, .slice (some ⟨w.heap.size + 1, 0, none⟩) 1 1, .slice (some ⟨w.heap.size + 1 + 1 + 1 + 1, 0, none⟩) 2 2, .int .i64 1] 28) = X at HB HX HIN ⊢
  obtain ⟨c0, c1, c2, c3, c4⟩ := five_of HX.out
  go_upto_region 3 with (go_at_call 7; refine (HPR.out X _ _ _ HB.out HIN.out).mono ?_; rintro e w2 ⟨rfl, hb2⟩; have HB2 := Lib.hid (bt HB.out (Nat.le_refl _) hb2); have HX2 := Lib.hid (Blk.below HX.out hb2 (Blk.lt HX.out)); have HIN2 := Lib.hid (HIN.out.below hb2); clear hb2)
  clear c0 c1 c2 c3 c4 HX HIN HB
  go_upto_region 4 with (first
    | (go_at_call 13; refine (HRD.out w2 HB2.out).mono ?_; rintro e w3 ⟨hb3, st, lp, at3, code, vp, vi, vr, rfl, _, hyes3⟩; obtain ⟨h3a, h3b, h3c, h3d, ho3⟩ := hyes3 exW rfl; have h3c : st = 1 := h3c; have h3d : lp = 1 := h3d; subst h3a h3b h3c h3d; obtain ⟨A1, n1, k1, A2, n2, k2, A3, n3, k3, he1, he2, he3⟩ := ho3.slices; subst he1 he2 he3; have HWR := Lib.hid ho3.in_; have HB3 := Lib.hid (bt HB2.out (Nat.le_refl _) hb3); have HX3 := Lib.hid (Blk.below HX2.out hb3 (Blk.lt HX2.out)); have HIN3 := Lib.hid (HIN2.out.below hb3); have HNA := Lib.hid ((Blk.new w3 28 #[.int .i64 0, .slice none 0 0, .slice none 0 0, .slice none 0 0, .int .i64 0]).alloc (.cells #[.int .i64 0, .int .i64 0] 40)); have HNF : Hid (Blk ((w3.alloc (.cells #[.int .i64 0, .slice none 0 0, .slice none 0 0, .slice none 0 0, .int .i64 0] 28)).alloc (.cells #[.int .i64 0, .int .i64 0] 40)) (w3.heap.size + 1) 40 #[.int .i64 0, .int .i64 0]) := Lib.hid (Blk.new_ _ _ _ _ (by simp)); clear hb3 hyes3 ho3)
    | (refine wpList_store_row rfl 28 (.tmp 4) (.tmp 22) rfl w3.heap.size #[.int .i64 1, .slice A1 n1 k1, .slice A2 n2 k2, .slice A3 n3 k3, .int .i64 1] rfl rfl 28 _ HNA.out (by kernel_rfl) rfl (by simp [Value.oneCell']) ?_)
    | (refine wpList_store_row rfl 40 (.tmp 5) (.tmp 23) rfl (w3.heap.size + 1) #[.int .i64 0, .int .i64 0] rfl rfl 40 _ (far_row HNF.out (by omega)) (by kernel_rfl) rfl (by simp [Value.oneCell']) ?_))
  have hb34 : Below w3.heap.size w3 ((((w3.alloc (.cells #[.int .i64 0, .slice none 0 0, .slice none 0 0, .slice none 0 0, .int .i64 0] 28)).alloc (.cells #[.int .i64 0, .int .i64 0] 40)).setRow w3.heap.size #[.int .i64 1, .slice A1 n1 k1, .slice A2 n2 k2, .slice A3 n3 k3, .int .i64 1]).setRow (w3.heap.size + 1) #[.int .i64 0, .int .i64 0]) := below_setRow (below_setRow (((Below.refl _ _).alloc (Nat.le_refl _) _).alloc (by simp) _) (Nat.le_refl _)) (by omega)
  have HKA : Hid (Blk ((((w3.alloc (.cells #[.int .i64 0, .slice none 0 0, .slice none 0 0, .slice none 0 0, .int .i64 0] 28)).alloc (.cells #[.int .i64 0, .int .i64 0] 40)).setRow w3.heap.size #[.int .i64 1, .slice A1 n1 k1, .slice A2 n2 k2, .slice A3 n3 k3, .int .i64 1]).setRow (w3.heap.size + 1) #[.int .i64 0, .int .i64 0]) w3.heap.size 28 #[.int .i64 1, .slice A1 n1 k1, .slice A2 n2 k2, .slice A3 n3 k3, .int .i64 1]) := Lib.hid (far_row (setRow_heap _ _ _ _ _ _ HNA.out) (by omega))
  have HKF : Hid (Blk ((((w3.alloc (.cells #[.int .i64 0, .slice none 0 0, .slice none 0 0, .slice none 0 0, .int .i64 0] 28)).alloc (.cells #[.int .i64 0, .int .i64 0] 40)).setRow w3.heap.size #[.int .i64 1, .slice A1 n1 k1, .slice A2 n2 k2, .slice A3 n3 k3, .int .i64 1]).setRow (w3.heap.size + 1) #[.int .i64 0, .int .i64 0]) (w3.heap.size + 1) 40 #[.int .i64 0, .int .i64 0]) := Lib.hid (setRow_heap _ _ _ _ _ _ (far_row HNF.out (by omega)))
  have HB4 := Lib.hid (bt HB3.out (Nat.le_refl _) hb34)
  have HX4 := Lib.hid (Blk.below HX3.out hb34 (Blk.lt HX3.out))
  have HSA := Lib.hid (HSM.out _ _ _ _ _ _ _ (HWR.out.below hb34) (HIN3.out.below hb34))
  clear hb34
  generalize (((w3.alloc (.cells #[.int .i64 0, .slice none 0 0, .slice none 0 0, .slice none 0 0, .int .i64 0] 28)).alloc (.cells #[.int .i64 0, .int .i64 0] 40)).setRow w3.heap.size #[.int .i64 1, .slice A1 n1 k1, .slice A2 n2 k2, .slice A3 n3 k3, .int .i64 1]).setRow (w3.heap.size + 1) #[.int .i64 0, .int .i64 0] = X4 at HKA HKF HB4 HX4 HSA ⊢
  obtain ⟨c0, c1, c2, c3, c4⟩ := five_of HKA.out
  obtain ⟨d0, d1, d2, d3, d4⟩ := five_of HX4.out
  obtain ⟨e0, e1⟩ := duo_of HKF.out
  have hbld := build_f0 X4
  go_wp2_with (go_at_call 11; refine HSA.out.mono ?_; rintro e w5 ⟨rfl, hb5⟩; have HB5 := Lib.hid (bt HB4.out (Nat.le_refl _) hb5); clear hb5)
  go_ret
  exact ⟨by simp, HB5.out⟩
end Go.Proofs.YtjbglgmbnjdhcaaDoor

namespace Go.Proofs.YtjbglgmbnjdhcaaDoor
open Go.RowKit

theorem OwnA.at_ {w : World} {B : Nat} {xs : List Wit} {us : List (Value × Value × Value)} {A : Option Addr} {k c : Nat} (h : OwnA w B xs us (.slice A k c)) : k = xs.length ∧ ∀ (i : Nat) (x : Wit), xs[i]? = some x → ∃ b off A1 n1 k1 A2 n2 k2 A3 n3 k3, A = some ⟨b, off, none⟩ ∧ b < w.heap.size ∧ OwnW w B x (.slice A1 n1 k1) (.slice A2 n2 k2) (.slice A3 n3 k3) ∧ w.cell? ⟨b, off + i * 5, none⟩ = some (.int .i64 x.st) ∧ w.cell? ⟨b, off + i * 5 + 1, none⟩ = some (.slice A1 n1 k1) ∧ w.cell? ⟨b, off + i * 5 + 2, none⟩ = some (.slice A2 n2 k2) ∧ w.cell? ⟨b, off + i * 5 + 3, none⟩ = some (.slice A3 n3 k3) ∧ w.cell? ⟨b, off + i * 5 + 4, none⟩ = some (.int .i64 x.tr.loop) := by
  have hz : (xs.zip us).length = us.length := by rw [List.length_zip, h.len, Nat.min_self]
  have hr : RowE 5 enc5 w (.slice A k c) (xs.zip us) := own_rowe (enc := enc5) (fun _ => rfl) (by rw [hz]; exact h.o)
  obtain ⟨A9, c9, e9, _, _, h6⟩ := hr
  rw [hz] at e9
  injection e9 with e1 e2 e3
  subst e1
  refine ⟨by rw [e2, h.len], fun i x hx => ?_⟩
  have hi : i < us.length := by rw [h.len]; exact (List.getElem?_eq_some_iff.1 hx).1
  obtain ⟨u, hu⟩ : ∃ u, us[i]? = some u := ⟨_, List.getElem?_eq_getElem hi⟩
  have hzi : (xs.zip us)[i]? = some (x, u) := by rw [List.getElem?_zip_eq_some]; exact ⟨hx, hu⟩
  obtain ⟨b, off, rfl, hb, hc⟩ := h6 i (x, u) hzi
  have ho := h.each i x u hx hu
  obtain ⟨u1, u2, u3⟩ := u
  obtain ⟨A1, n1, k1, A2, n2, k2, A3, n3, k3, f1, f2, f3⟩ := ho.slices
  simp only at f1 f2 f3
  subst f1 f2 f3
  have g0 := hc 0 _ rfl
  have g1 := hc 1 _ rfl
  have g2 := hc 2 _ rfl
  have g3 := hc 3 _ rfl
  have g4 := hc 4 _ rfl
  simp only [Nat.add_zero, ← Nat.add_assoc] at g0 g1 g2 g3 g4
  exact ⟨b, off, A1, n1, k1, A2, n2, k2, A3, n3, k3, rfl, hb, ho, g0, g1, g2, g3, g4⟩
end Go.Proofs.YtjbglgmbnjdhcaaDoor

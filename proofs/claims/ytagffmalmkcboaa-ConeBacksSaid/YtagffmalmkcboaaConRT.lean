/- Cone: the document's Trace. -/
import Derived.Test.YtagffmalmkcboaaConZA
namespace Go.Proofs.Ytagffmalmkcboaa
open Go.RowKit Go.Maps

theorem own_set1C {w : World} {B n cap g q : Nat} {t : TypeId} {xs : List Value} (h : w.ownsRow B t 1 (.slice (some ⟨g, 0, none⟩) n cap) n xs) (hq : q < n) (u : Value) :
    B ≤ g ∧ (∃ cs, Blk w g t cs) ∧ (∀ i, w.frozen? ⟨g, i, none⟩ = false) ∧ w.cell? ⟨g, q, none⟩ = xs[q]? ∧ (w.setCell ⟨g, q, none⟩ u).ownsRow B t 1 (.slice (some ⟨g, 0, none⟩) n cap) n (xs.set q u) := by
  have hl := h.1
  rcases h.2 with ⟨hv, hn0⟩ | ⟨g', cap', cur, hv, hB, hh, h1, h2, h3, h4⟩
  · omega
  · injection hv with e1 e2 e3
    injection e1 with e1
    injection e1 with e1
    subst e1 e3
    have hb : Blk w g t cur := hh
    refine ⟨hB, ⟨cur, hb⟩, fun i => hb.frozen i, ?_, by simpa using hl, .inr ⟨g, cap, cur.setIfInBounds q u, rfl, hB, Blk.set_ hb q u, h1, h2, by simpa using h3, ?_⟩⟩
    · rw [hb.cell, ← h4, List.getElem?_take, if_pos (by omega), Array.getElem?_toList]
    · rw [Array.toList_setIfInBounds, ← h4, List.take_set]
theorem CT.start {W0 WB X : World} {bz gi nL : Nat} {lp : Int} (hW : Below W0.heap.size W0 WB) (hX : Below WB.heap.size WB X) (h1 : WB.heap.size ≤ bz) (h2 : WB.heap.size ≤ gi) (hn : nL ≤ maxLen)
    (hi : Blk X gi 4 (madeCells #[Value.bool false] nL)) (hb : Blk X bz 49 #[.slice none 0 0, .slice none 0 0, .int .i64 0]) :
    CT W0 (X.setRow bz #[.slice (some ⟨gi, 0, none⟩) nL nL, .slice none 0 0, .int .i64 lp]) bz (.slice (some ⟨gi, 0, none⟩) nL nL) (.slice none 0 0) lp (List.replicate nL false) [] [] := by
  have hz := hW.size
  have h0X := bt hW (Nat.le_refl _) hX
  have n1 : gi ≠ bz := fun e => hi.ne_ hb (by decide) e
  rw [made_bool] at hi
  have ho := tab_ownO (w := X.setRow bz #[.slice (some ⟨gi, 0, none⟩) nL nL, .slice none 0 0, .int .i64 lp]) (B := W0.heap.size) ((setRow_other _ _ _ _ n1).trans hi) (by omega) (by simpa using hn)
  exact ⟨⟨h0X.os, h0X.tape, h0X.output, by rw [size_setRow]; exact h0X.size, fun k hk => (setRow_other _ _ _ _ (by omega)).trans (h0X.block k hk)⟩, by omega, setRow_heap _ _ _ _ _ _ hb, by simpa using ho, rfl, World.ownsRow_nil _ _ _ _, fun i u zs hu _ => by simp at hu⟩
theorem CT.ini_ {W0 wr : World} {bz gi n q : Nat} {lp : Int} {ini : List Bool} (h : CT W0 wr bz (.slice (some ⟨gi, 0, none⟩) n n) (.slice none 0 0) lp ini [] []) (hl : ini.length = n) (hq : q < n) (b : Bool) :
    CT W0 (wr.setCell ⟨gi, q, none⟩ (.bool b)) bz (.slice (some ⟨gi, 0, none⟩) n n) (.slice none 0 0) lp (ini.set q b) [] [] ∧ (∃ u, wr.cell? ⟨gi, q, none⟩ = some u) ∧ wr.frozen? ⟨gi, q, none⟩ = false ∧ gi < wr.heap.size := by
  have hi := h.i
  rw [hl] at hi
  obtain ⟨hB, ⟨cs, hb⟩, hf, hc, hset⟩ := own_set1C hi hq (.bool b)
  have hne : bz ≠ gi := fun e => h.blk.ne_ hb (by decide) e
  refine ⟨⟨h.below.setCell (p := ⟨gi, q, none⟩) hB _, h.lt, (Below.heap_setCell _ _ _ _ hne).trans h.blk, ?_, rfl, World.ownsRow_nil _ _ _ _, fun i u zs hu _ => by simp at hu⟩, ⟨(ini.map Value.bool)[q]'(by simpa [hl] using hq), by rw [hc, List.getElem?_eq_getElem]⟩, hf q, hb.lt⟩
  rw [List.length_set, hl, List.map_set]
  exact hset
theorem CT.on {W0 wr w5 : World} {bz : Nat} {iv ov : Value} {lp : Int} {ini : List Bool} {us : List Value} {rows : List (List Bool)} (h : CT W0 wr bz iv ov lp ini us rows) (hb : Below wr.heap.size wr w5) : CT W0 w5 bz iv ov lp ini us rows :=
  ⟨h.below.trans (hb.mono h.below.size), h.lt, h.blk.below hb h.blk.lt, own_below h.i hb, h.len, own_below h.o hb, fun i u zs hu hz => own_below (h.each i u zs hu hz) hb⟩
set_option maxHeartbeats 20000000 in
set_option maxRecDepth 100000 in
theorem rTraceC_any (w : World) (V : CV) (C : Circ) (X : CV) (mx : Int) (lv iv tv : Value) (I T : List Int) (U : TV) (t : Tr) (h : C.In w V) (ok : C.Ok) (htn : ∀ s ∈ C.comments, s.size ≤ maxLen) (hi : RowE 1 encI w iv I) (ht : RowE 1 encI w tv T) (hu : t.In w U) (hIw : ∀ x ∈ I, I64 x) (hTw : ∀ x ∈ T, I64 x) :
    Calls Try.prog 18 #[V.val C.max, .agg (cutCells X mx lv iv tv), U.val t.loop] w fun e w' => Below w.heap.size w w' ∧ ∃ U' : TV, e = .returned (.tuple #[U'.val (traR C I T t).loop, .int .i64 (traE C I T t)]) ∧ OwnT w' w.heap.size (traR C I T t) U' := by
  obtain ⟨AL, cL, eL, _, _, hrL⟩ := h.l
  obtain ⟨AI, cI, eI, _, _, _⟩ := h.i
  obtain ⟨AR, cR, eR, hmR, hrr⟩ := hu.r.at_
  obtain ⟨AQ, cQ, eQ, hlQ, hmQ, hrQ⟩ := hu.i
  obtain ⟨AP, cP, eP, hlP, hmP, hrP⟩ := hi
  obtain ⟨AT, cT, eT, hlT, hmT, hrT⟩ := ht
  obtain ⟨Vi, Vl, Vo, Vb, Vc, Vj, Vf, Va, Vs, Vt⟩ := V
  obtain ⟨Ui, Ur⟩ := U
  simp only at eL eI eR eQ
  subst eL eI eR eQ eP eT
  obtain ⟨W1, hW1⟩ : ∃ W1, (((w.alloc (.cells (CV.cells ⟨.slice AI C.inputs.length cI, .slice AL C.latches.length cL, Vo, Vb, Vc, Vj, Vf, Va, Vs, Vt⟩ C.max) 29)).alloc (.cells (cutCells X mx lv (.slice AP I.length cP) (.slice AT T.length cT)) 34)).alloc (.cells #[.slice AQ t.init.length cQ, .slice AR t.rows.length cR, .int .i64 t.loop] 49)).alloc (.cells #[.slice none 0 0, .slice none 0 0, .int .i64 0] 49) = W1 := ⟨_, rfl⟩
  have HS1 : Hid (W1.heap.size = w.heap.size + 1 + 1 + 1 + 1) := Lib.hid (by rw [← hW1]; simp)
  have hb1 : Below w.heap.size w W1 := by rw [← hW1]; exact ((((Below.refl _ _).alloc (Nat.le_refl _) _).alloc (by simp) _).alloc (by simp; omega) _).alloc (by simp; omega) _
  have HALL : Hid (∀ wz, Below W1.heap.size W1 wz → wz.heap[w.heap.size]? = some (.cells (CV.cells ⟨.slice AI C.inputs.length cI, .slice AL C.latches.length cL, Vo, Vb, Vc, Vj, Vf, Va, Vs, Vt⟩ C.max) 29 (0, 0)) ∧ (wz.cell? ⟨w.heap.size, 1, none⟩ = some (.slice AI C.inputs.length cI) ∧ wz.cell? ⟨w.heap.size, 2, none⟩ = some (.slice AL C.latches.length cL)) ∧ (wz.cell? ⟨w.heap.size + 1, 12, none⟩ = some (.slice AP I.length cP) ∧ wz.cell? ⟨w.heap.size + 1, 13, none⟩ = some (.slice AT T.length cT)) ∧ (wz.cell? ⟨w.heap.size + 1 + 1, 0, none⟩ = some (.slice AQ t.init.length cQ) ∧ wz.cell? ⟨w.heap.size + 1 + 1, 1, none⟩ = some (.slice AR t.rows.length cR) ∧ wz.cell? ⟨w.heap.size + 1 + 1, 2, none⟩ = some (.int .i64 t.loop)) ∧ Blk wz (w.heap.size + 1 + 1 + 1) 49 #[.slice none 0 0, .slice none 0 0, .int .i64 0] ∧ Below w.heap.size w wz) := Lib.hid (fun wz hb => by
    have h1 : Blk W1 w.heap.size 29 (CV.cells ⟨.slice AI C.inputs.length cI, .slice AL C.latches.length cL, Vo, Vb, Vc, Vj, Vf, Va, Vs, Vt⟩ C.max) := by rw [← hW1]; exact (((Blk.new w _ _).alloc _).alloc _).alloc _
    have h2 : Blk W1 (w.heap.size + 1) 34 (cutCells X mx lv (.slice AP I.length cP) (.slice AT T.length cT)) := by
      rw [← hW1]
      have := ((Blk.new (w.alloc (.cells (CV.cells ⟨.slice AI C.inputs.length cI, .slice AL C.latches.length cL, Vo, Vb, Vc, Vj, Vf, Va, Vs, Vt⟩ C.max) 29)) 34 (cutCells X mx lv (.slice AP I.length cP) (.slice AT T.length cT))).alloc (.cells #[.slice AQ t.init.length cQ, .slice AR t.rows.length cR, .int .i64 t.loop] 49)).alloc (.cells #[.slice none 0 0, .slice none 0 0, .int .i64 0] 49)
      simpa using this
    have h3 : Blk W1 (w.heap.size + 1 + 1) 49 #[.slice AQ t.init.length cQ, .slice AR t.rows.length cR, .int .i64 t.loop] := by
      rw [← hW1]
      have := (Blk.new ((w.alloc (.cells (CV.cells ⟨.slice AI C.inputs.length cI, .slice AL C.latches.length cL, Vo, Vb, Vc, Vj, Vf, Va, Vs, Vt⟩ C.max) 29)).alloc (.cells (cutCells X mx lv (.slice AP I.length cP) (.slice AT T.length cT)) 34)) 49 #[.slice AQ t.init.length cQ, .slice AR t.rows.length cR, .int .i64 t.loop]).alloc (.cells #[.slice none 0 0, .slice none 0 0, .int .i64 0] 49)
      simpa using this
    have h4 : Blk W1 (w.heap.size + 1 + 1 + 1) 49 #[.slice none 0 0, .slice none 0 0, .int .i64 0] := by
      rw [← hW1]
      have := Blk.new (((w.alloc (.cells (CV.cells ⟨.slice AI C.inputs.length cI, .slice AL C.latches.length cL, Vo, Vb, Vc, Vj, Vf, Va, Vs, Vt⟩ C.max) 29)).alloc (.cells (cutCells X mx lv (.slice AP I.length cP) (.slice AT T.length cT)) 34)).alloc (.cells #[.slice AQ t.init.length cQ, .slice AR t.rows.length cR, .int .i64 t.loop] 49)) 49 #[.slice none 0 0, .slice none 0 0, .int .i64 0]
      simpa using this
    have k1 := h1.below hb h1.lt
    have k2 := h2.below hb h2.lt
    have k3 := h3.below hb h3.lt
    exact ⟨k1, ⟨k1.cell 1, k1.cell 2⟩, ⟨k2.cell 12, k2.cell 13⟩, ⟨k3.cell 0, k3.cell 1, k3.cell 2⟩, h4.below hb h4.lt, hb1.trans (hb.mono hb1.size)⟩)
  have hck := rCheck_any W1 _ C (h.below hb1) ok htn
  have HRI := Lib.hid (fun (wx : World) (hb : Below W1.heap.size W1 wx) (n : Int) => rise_any wx (.slice AP I.length cP) I n (RowE.below (⟨AP, cP, rfl, hlP, hmP, hrP⟩ : RowE 1 encI w (.slice AP I.length cP) I) (hb1.trans (hb.mono hb1.size))))
  have HRT := Lib.hid (fun (wx : World) (hb : Below W1.heap.size W1 wx) (n : Int) => rise_any wx (.slice AT T.length cT) T n (RowE.below (⟨AT, cT, rfl, hlT, hmT, hrT⟩ : RowE 1 encI w (.slice AT T.length cT) T) (hb1.trans (hb.mono hb1.size))))
  have HRL := Lib.hid hrL
  have HRR := Lib.hid hrr
  have HRQ := Lib.hid hrQ
  have HRP := Lib.hid hrP
  have HRTT := Lib.hid hrT
  have HIW := Lib.hid (And.intro hIw hTw)
  have HW1 := Lib.hid hW1
  have HC1 := Lib.hid (HALL.out W1 (Below.refl _ _))
  by_cases hz : (checkR C).2 = 0
  · have hrt := right_of hz
    have hni := hrt.ni
    have hnl := hrt.nl
    obtain ⟨ca, hck2⟩ : ∃ a, checkR C = (a, 0) := ⟨(checkR C).1, by rw [← hz]⟩
    rw [hck2] at hck
    have HCK := Lib.hid hck
    obtain ⟨nI, hnI⟩ : ∃ n, C.inputs.length = n := ⟨_, rfl⟩
    obtain ⟨nL, hnL⟩ : ∃ n, C.latches.length = n := ⟨_, rfl⟩
    obtain ⟨nR, hnR⟩ : ∃ n, t.rows.length = n := ⟨_, rfl⟩
    obtain ⟨nQ, hnQ⟩ : ∃ n, t.init.length = n := ⟨_, rfl⟩
    obtain ⟨nP, hnP⟩ : ∃ n, I.length = n := ⟨_, rfl⟩
    obtain ⟨nT, hnT⟩ : ∃ n, T.length = n := ⟨_, rfl⟩
    obtain ⟨lp, hlp⟩ : ∃ n, t.loop = n := ⟨_, rfl⟩
    obtain ⟨mc, hmc⟩ : ∃ n, C.max = n := ⟨_, rfl⟩
    rw [hnI, hnL, hnR, hnQ, hnP, hnT, hlp, hmc] at HALL HW1 HC1
    rw [hnI, hnL, hmc] at HCK
    rw [hnP] at HRI
    rw [hnT] at HRT
    rw [hnI, hnL, hnR, hnQ, hnP, hnT, hlp, hmc]
    rw [hnI] at hni
    rw [hnL] at hnl
    have hnP9 : nP ≤ 9223372036854775807 := by rw [← hnP]; simp only [maxLen] at hmP; omega
    have hnT9 : nT ≤ 9223372036854775807 := by rw [← hnT]; simp only [maxLen] at hmT; omega
    obtain ⟨ra, hra⟩ : ∃ b, riseB (nI : Int) (-1) I = b := ⟨_, rfl⟩
    obtain ⟨rb, hrb⟩ : ∃ b, riseB (nL : Int) (-1) T = b := ⟨_, rfl⟩
    have HE : Hid (traE C I T t = if ra = true ∧ rb = true ∧ fitC nT nP t = true then 0 else 4) := Lib.hid (by unfold traE; rw [if_neg (by simp [hz]), hnI, hnL, hra, hrb, hnP, hnT])
    have HN := Lib.hid (And.intro hnI (And.intro hnL (And.intro hnR (And.intro hnQ (And.intro hnP (And.intro hnT hlp))))))
    have HRAB := Lib.hid (And.intro hra hrb)
    clear h ok htn hu hck hck2 hz hrt hW1 hb1 hrL hrr hrQ hrP hrT hIw hTw hmR hlQ hmQ hlP hmP hlT hmT hnI hnL hnR hnQ hnP hnT hlp hmc
    dsimp only [TV.val, TV.cells, CV.val, CV.cells, cutCells] at HCK HW1 HC1 HALL ⊢
    go_enter Try.func18, Try.ntmps18
    go_upto_region 1 with (fail)
    rw [HW1.out]
    go_upto_region 4 with (first
      | (refine wpList_load_row rfl 29 (.tmp 3) rfl w.heap.size rfl 29 #[.int .i64 mc, .slice AI nI cI, .slice AL nL cL, Vo, Vb, Vc, Vj, Vf, Va, Vs, Vt] (0, 0) _ HC1.out.1 Try.underlying29 rfl (by kernel_rfl) ?_)
      | (go_at_call 29; refine HCK.out.mono ?_; rintro e w2 ⟨rfl, hb2⟩; have HB2 := Lib.hid hb2; clear hb2))
    obtain ⟨_, ⟨b1, b2⟩, ⟨b12, b13⟩, ⟨b0, b01, b02⟩, _⟩ := HALL.out w2 HB2.out
    cases ra with
    | false =>
      have HE4 : Hid (traE C I T t = 4 ∧ traR C I T t = ⟨[], [], 0⟩) := Lib.hid (by
        have h4 : traE C I T t = 4 := by rw [HE.out, if_neg (by simp)]
        exact ⟨h4, traR_no (by rw [h4]; decide)⟩)
      go_upto_region 5 with (go_at_call_of 40 (Value.slice AP nP cP); refine (HRI.out w2 HB2.out (nI : Int)).mono ?_; rw [hra]; rintro e w3 ⟨rfl, hb3⟩; have HB3 := Lib.hid (bt HB2.out (Nat.le_refl _) hb3); clear hb3 b1 b2 b12 b13 b0 b01 b02; obtain ⟨_, ⟨b1, b2⟩, ⟨b12, b13⟩, ⟨b0, b01, b02⟩, _⟩ := HALL.out w3 HB3.out)
      clear b1 b2 b12 b13 b0 b01 b02
      have HRS := Lib.hid (HALL.out w3 HB3.out).2.2.2.2
      go_wp2_with (refine wpList_store_row rfl 49 (.tmp 6) (.tmp 56) rfl (w.heap.size + 1 + 1 + 1) #[.slice none 0 0, .slice none 0 0, .int .i64 0] rfl rfl 49 _ HRS.out.1 (by kernel_rfl) rfl (by simp [Value.oneCell']) ?_)
      have hw9 : Blk (w3.setRow (w.heap.size + 1 + 1 + 1) #[.slice none 0 0, .slice none 0 0, .int .i64 0]) (w.heap.size + 1 + 1 + 1) 49 #[.slice none 0 0, .slice none 0 0, .int .i64 0] := setRow_heap w3 _ _ _ _ _ HRS.out.1
      refine bodyPost_ret (results_cell_one (fn := Try.f18) (p := 6) (q := 7) rfl _ _ (w.heap.size + 1 + 1 + 1) 49 #[.slice none 0 0, .slice none 0 0, .int .i64 0] (0, 0) _ rfl hw9 Try.underlying49 rfl (by kernel_rfl) (.int .i64 4) rfl) rfl ?_
      have hbel := HRS.out.2
      refine ⟨⟨hbel.os, hbel.tape, hbel.output, by rw [size_setRow]; exact hbel.size, fun k hk => (setRow_other _ _ _ _ (by omega)).trans (hbel.block k hk)⟩, ⟨.slice none 0 0, .slice none 0 0⟩, ?_, ?_⟩
      · rw [HE4.out.1, HE4.out.2]
      · rw [HE4.out.2]
        exact noT_own _ _
    | true =>
      cases rb with
      | false =>
        have HE4 : Hid (traE C I T t = 4 ∧ traR C I T t = ⟨[], [], 0⟩) := Lib.hid (by
          have h4 : traE C I T t = 4 := by rw [HE.out, if_neg (by simp)]
          exact ⟨h4, traR_no (by rw [h4]; decide)⟩)
        go_upto_region 5 with (first | (go_at_call_of 40 (Value.slice AP nP cP); refine (HRI.out w2 HB2.out (nI : Int)).mono ?_; rw [hra]; rintro e w3 ⟨rfl, hb3⟩; have HB3 := Lib.hid (bt HB2.out (Nat.le_refl _) hb3); clear hb3 b1 b2 b12 b13 b0 b01 b02; obtain ⟨_, ⟨b1, b2⟩, ⟨b12, b13⟩, ⟨b0, b01, b02⟩, _⟩ := HALL.out w3 HB3.out) | (go_at_call_of 40 (Value.slice AT nT cT); refine (HRT.out w3 HB3.out (nL : Int)).mono ?_; rw [hrb]; rintro e w4 ⟨rfl, hb4⟩; have HB4 := Lib.hid (bt HB3.out (Nat.le_refl _) hb4); clear hb4 b1 b2 b12 b13 b0 b01 b02; obtain ⟨_, ⟨b1, b2⟩, ⟨b12, b13⟩, ⟨b0, b01, b02⟩, _⟩ := HALL.out w4 HB4.out))
        clear b1 b2 b12 b13 b0 b01 b02
        have HRS := Lib.hid (HALL.out w4 HB4.out).2.2.2.2
        go_wp2_with (refine wpList_store_row rfl 49 (.tmp 6) (.tmp 56) rfl (w.heap.size + 1 + 1 + 1) #[.slice none 0 0, .slice none 0 0, .int .i64 0] rfl rfl 49 _ HRS.out.1 (by kernel_rfl) rfl (by simp [Value.oneCell']) ?_)
        have hw9 : Blk (w4.setRow (w.heap.size + 1 + 1 + 1) #[.slice none 0 0, .slice none 0 0, .int .i64 0]) (w.heap.size + 1 + 1 + 1) 49 #[.slice none 0 0, .slice none 0 0, .int .i64 0] := setRow_heap w4 _ _ _ _ _ HRS.out.1
        refine bodyPost_ret (results_cell_one (fn := Try.f18) (p := 6) (q := 7) rfl _ _ (w.heap.size + 1 + 1 + 1) 49 #[.slice none 0 0, .slice none 0 0, .int .i64 0] (0, 0) _ rfl hw9 Try.underlying49 rfl (by kernel_rfl) (.int .i64 4) rfl) rfl ?_
        have hbel := HRS.out.2
        refine ⟨⟨hbel.os, hbel.tape, hbel.output, by rw [size_setRow]; exact hbel.size, fun k hk => (setRow_other _ _ _ _ (by omega)).trans (hbel.block k hk)⟩, ⟨.slice none 0 0, .slice none 0 0⟩, ?_, ?_⟩
        · rw [HE4.out.1, HE4.out.2]
        · rw [HE4.out.2]
          exact noT_own _ _
      | true =>
        by_cases hqt : nQ = nT
        · by_cases hr5 : 512 < nR
          · have hr6 : (512 : Int) < (nR : Int) := by omega
            have HE4 : Hid (traE C I T t = 4 ∧ traR C I T t = ⟨[], [], 0⟩) := Lib.hid (by
              have h4 : traE C I T t = 4 := by rw [HE.out, if_neg (by rintro ⟨_, _, h⟩; have := (fitC_parts h).2.1; rw [HN.out.2.2.1] at this; omega)]
              exact ⟨h4, traR_no (by rw [h4]; decide)⟩)
            have hqq : ((nQ : Int) != (nT : Int)) = false := by simp [hqt]
            have HQT := Lib.hid hqt
            clear hqt
            go_upto_region 5 with (first | (go_at_call_of 40 (Value.slice AP nP cP); refine (HRI.out w2 HB2.out (nI : Int)).mono ?_; rw [hra]; rintro e w3 ⟨rfl, hb3⟩; have HB3 := Lib.hid (bt HB2.out (Nat.le_refl _) hb3); clear hb3 b1 b2 b12 b13 b0 b01 b02; obtain ⟨_, ⟨b1, b2⟩, ⟨b12, b13⟩, ⟨b0, b01, b02⟩, _⟩ := HALL.out w3 HB3.out) | (go_at_call_of 40 (Value.slice AT nT cT); refine (HRT.out w3 HB3.out (nL : Int)).mono ?_; rw [hrb]; rintro e w4 ⟨rfl, hb4⟩; have HB4 := Lib.hid (bt HB3.out (Nat.le_refl _) hb4); clear hb4 b1 b2 b12 b13 b0 b01 b02; obtain ⟨_, ⟨b1, b2⟩, ⟨b12, b13⟩, ⟨b0, b01, b02⟩, _⟩ := HALL.out w4 HB4.out))
            clear b1 b2 b12 b13 b0 b01 b02
            have HRS := Lib.hid (HALL.out w4 HB4.out).2.2.2.2
            go_wp2_with (refine wpList_store_row rfl 49 (.tmp 6) (.tmp 56) rfl (w.heap.size + 1 + 1 + 1) #[.slice none 0 0, .slice none 0 0, .int .i64 0] rfl rfl 49 _ HRS.out.1 (by kernel_rfl) rfl (by simp [Value.oneCell']) ?_)
            have hw9 : Blk (w4.setRow (w.heap.size + 1 + 1 + 1) #[.slice none 0 0, .slice none 0 0, .int .i64 0]) (w.heap.size + 1 + 1 + 1) 49 #[.slice none 0 0, .slice none 0 0, .int .i64 0] := setRow_heap w4 _ _ _ _ _ HRS.out.1
            refine bodyPost_ret (results_cell_one (fn := Try.f18) (p := 6) (q := 7) rfl _ _ (w.heap.size + 1 + 1 + 1) 49 #[.slice none 0 0, .slice none 0 0, .int .i64 0] (0, 0) _ rfl hw9 Try.underlying49 rfl (by kernel_rfl) (.int .i64 4) rfl) rfl ?_
            have hbel := HRS.out.2
            refine ⟨⟨hbel.os, hbel.tape, hbel.output, by rw [size_setRow]; exact hbel.size, fun k hk => (setRow_other _ _ _ _ (by omega)).trans (hbel.block k hk)⟩, ⟨.slice none 0 0, .slice none 0 0⟩, ?_, ?_⟩
            · rw [HE4.out.1, HE4.out.2]
            · rw [HE4.out.2]
              exact noT_own _ _
          · have hr6 : ¬ (512 : Int) < (nR : Int) := by omega
            have hqq : ((nQ : Int) != (nT : Int)) = false := by simp [hqt]
            have HQT := Lib.hid hqt
            clear hqt
            go_upto_region 6 with (first | (go_at_call_of 40 (Value.slice AP nP cP); refine (HRI.out w2 HB2.out (nI : Int)).mono ?_; rw [hra]; rintro e w3 ⟨rfl, hb3⟩; have HB3 := Lib.hid (bt HB2.out (Nat.le_refl _) hb3); clear hb3 b1 b2 b12 b13 b0 b01 b02; obtain ⟨_, ⟨b1, b2⟩, ⟨b12, b13⟩, ⟨b0, b01, b02⟩, _⟩ := HALL.out w3 HB3.out) | (go_at_call_of 40 (Value.slice AT nT cT); refine (HRT.out w3 HB3.out (nL : Int)).mono ?_; rw [hrb]; rintro e w4 ⟨rfl, hb4⟩; have HB4 := Lib.hid (bt HB3.out (Nat.le_refl _) hb4); clear hb4 b1 b2 b12 b13 b0 b01 b02; obtain ⟨_, ⟨b1, b2⟩, ⟨b12, b13⟩, ⟨b0, b01, b02⟩, _⟩ := HALL.out w4 HB4.out))
            clear hqq b1 b2 b12 b13 b0 b01 b02
            have hmkb := make_bools nL (by omega)
            have hmki := make_bools nI (by omega)
            obtain ⟨WB, hWB⟩ : ∃ WB, w4.drew = WB := ⟨_, rfl⟩
            have HWD := Lib.hid hWB
            have HWB : Hid (Below W1.heap.size W1 WB) := Lib.hid (by rw [← hWB]; exact HB4.out.drew)
            have HSS : Hid (∀ wz, Below W1.heap.size W1 wz → wz.cell? ⟨w.heap.size, 2, none⟩ = some (.slice AL nL cL) ∧ wz.cell? ⟨w.heap.size + 1 + 1, 2, none⟩ = some (.int .i64 lp)) := Lib.hid (fun wz hb => ⟨(HALL.out wz hb).2.1.2, (HALL.out wz hb).2.2.2.1.2.2⟩)
            clear hWB
            go_cut [10] (fun p wx => ∃ bz gi : Nat, p = .pointer (some ⟨bz, 0, none⟩) ∧ CT W1 wx bz (.slice (some ⟨gi, 0, none⟩) nL nL) (.slice none 0 0) lp (List.replicate nL false) [] [])
            case first =>
              refine wp_region_T (by kernel_rfl) (fun w' => w'.cell? ⟨w.heap.size, 2, none⟩ = some (.slice AL nL cL) ∧ w'.cell? ⟨w.heap.size + 1 + 1, 2, none⟩ = some (.int .i64 lp)) 9 ?_
              rw [HWD.out]
              have hHeld := HSS.out WB HWB.out
              refine wpAnyT_take (i := 0) (v := ?v0r6q1) rfl (by kernel_rfl) (fun _ _ _ h => h) (by rfl) hHeld ?h0r6q1 ?_
              case h0r6q1 => (intro w' hSw; (try dsimp only at hSw); go_simp; try with_reducible rfl)
              (try simp only [Act.put, List.setIfInBounds_toArray])
              refine wpAnyT_take (i := 1) (v := ?v1r6q1) rfl (by kernel_rfl) (fun _ _ _ h => h) (by rfl) hHeld ?h1r6q1 ?_
              case h1r6q1 => (intro w' hSw; (try dsimp only at hSw); go_simp; try with_reducible rfl)
              (try simp only [Act.put])
              refine wpAnyT_take (i := 2) (v := ?v2r6q1) rfl (by kernel_rfl) (fun _ _ _ h => h) (by rfl) hHeld ?h2r6q1 ?_
              case h2r6q1 => (intro w' hSw; (try dsimp only at hSw); go_simp; try with_reducible rfl)
              (try simp only [Act.put])
              refine wpAnyT_take (i := 4) (v := ?v4r6q2) rfl (by kernel_rfl) (fun _ _ _ h => h) (by rfl) hHeld ?h4r6q2 ?_
              case h4r6q2 => (intro w' hSw; (try dsimp only at hSw); go_simp; try with_reducible rfl)
              (try simp only [Act.put])
              refine wpAnyT_take (i := 5) (v := ?v5r6q2) rfl (by kernel_rfl) (fun _ _ _ h => h) (by rfl) hHeld ?h5r6q2 ?_
              case h5r6q2 => (intro w' hSw; (try dsimp only at hSw); go_simp; try with_reducible rfl)
              (try simp only [Act.put])
              clear hHeld
              refine wpAnyT_two (i := 3) (j := 7) (by kernel_rfl) ?f3 ?f7
              case f3 =>
                refine wpOpT (i := 3) rfl (fun K hK => ?_)
                go_simp
                refine hK.out _ _ (fun _ => HSS.out _ (bt HWB.out (Nat.le_refl _) ((Below.refl _ _).alloc (Nat.le_refl _) _))) ?_
                clear hK K
                (try simp only [Act.put, zA, zB, zC])
                have hHeld := HSS.out _ (bt HWB.out (Nat.le_refl _) ((Below.refl _ _).alloc (Nat.le_refl _) (.cells (madeCells #[Value.bool false] nL) 4)))
                refine wpAnyT_take (i := 6) (v := ?v6r6q3) rfl (by kernel_rfl) (fun _ _ _ h => h) (by rfl) hHeld ?h6r6q3 ?_
                case h6r6q3 => (intro w' hSw; (try dsimp only at hSw); go_simp; try with_reducible rfl)
                (try simp only [Act.put, List.setIfInBounds_toArray])
                clear hHeld
                refine wpAnyT_one (i := 7) rfl (by kernel_rfl) (fun K hK => ?_)
                go_simp
                refine hK.out _ _ (fun _ => HSS.out _ (bt HWB.out (Nat.le_refl _) (((Below.refl _ _).alloc (Nat.le_refl _) _).alloc (by simp) _))) ?_
                clear hK K
                (try simp only [Act.put, zA, zB, zC])
                have hgi : Blk ((WB.alloc (.cells (madeCells #[Value.bool false] nL) 4)).alloc (.cells #[.slice none 0 0, .slice none 0 0, .int .i64 0] 49)) WB.heap.size 4 (madeCells #[Value.bool false] nL) := (Blk.new WB _ _).alloc _
                have hbt : Blk ((WB.alloc (.cells (madeCells #[Value.bool false] nL) 4)).alloc (.cells #[.slice none 0 0, .slice none 0 0, .int .i64 0] 49)) (WB.heap.size + 1) 49 #[.slice none 0 0, .slice none 0 0, .int .i64 0] := by
                  have := Blk.new (WB.alloc (.cells (madeCells #[Value.bool false] nL) 4)) 49 #[.slice none 0 0, .slice none 0 0, .int .i64 0]
                  simpa using this
                have hbx : Below WB.heap.size WB ((WB.alloc (.cells (madeCells #[Value.bool false] nL) 4)).alloc (.cells #[.slice none 0 0, .slice none 0 0, .int .i64 0] 49)) := ((Below.refl _ _).alloc (Nat.le_refl _) _).alloc (by simp) _
                have hct := CT.start (lp := lp) HWB.out hbx (bz := (WB.heap.size + 1)) (gi := WB.heap.size) (by omega) (by omega) (by simp only [maxLen]; omega) hgi hbt
                refine wpAnyT_one (i := 8) rfl (by kernel_rfl) (fun K hK => ?_)
                rw [if_pos (by rfl)]
                refine wp_store_row 49 (.tmp 10) (.tmp 63) rfl (WB.heap.size + 1) #[.slice (some ⟨WB.heap.size, 0, none⟩) nL nL, .slice none 0 0, .int .i64 lp] rfl rfl 49 _ hbt (by kernel_rfl) rfl (by simp [Value.oneCell']) (hK.out _ _ (fun _ => HSS.out _ hct.below) ?_)
                refine wpAnyT_done (by kernel_rfl) ?_
                go_wp2_with fail
                go_meet
                exact ⟨(WB.heap.size + 1), WB.heap.size, rfl, hct⟩
              case f7 =>
                refine wpOpT (i := 7) rfl (fun K hK => ?_)
                go_simp
                refine hK.out _ _ (fun _ => HSS.out _ (bt HWB.out (Nat.le_refl _) ((Below.refl _ _).alloc (Nat.le_refl _) _))) ?_
                clear hK K
                (try simp only [Act.put, zA, zB, zC])
                refine wpAnyT_one (i := 3) rfl (by kernel_rfl) (fun K hK => ?_)
                go_simp
                refine hK.out _ _ (fun _ => HSS.out _ (bt HWB.out (Nat.le_refl _) (((Below.refl _ _).alloc (Nat.le_refl _) _).alloc (by simp) _))) ?_
                clear hK K
                (try simp only [Act.put, zA, zB, zC])
                have hbt : Blk ((WB.alloc (.cells #[.slice none 0 0, .slice none 0 0, .int .i64 0] 49)).alloc (.cells (madeCells #[Value.bool false] nL) 4)) WB.heap.size 49 #[.slice none 0 0, .slice none 0 0, .int .i64 0] := (Blk.new WB _ _).alloc _
                have hgi : Blk ((WB.alloc (.cells #[.slice none 0 0, .slice none 0 0, .int .i64 0] 49)).alloc (.cells (madeCells #[Value.bool false] nL) 4)) (WB.heap.size + 1) 4 (madeCells #[Value.bool false] nL) := by
                  have := Blk.new (WB.alloc (.cells #[.slice none 0 0, .slice none 0 0, .int .i64 0] 49)) 4 (madeCells #[Value.bool false] nL)
                  simpa using this
                have hbx : Below WB.heap.size WB ((WB.alloc (.cells #[.slice none 0 0, .slice none 0 0, .int .i64 0] 49)).alloc (.cells (madeCells #[Value.bool false] nL) 4)) := ((Below.refl _ _).alloc (Nat.le_refl _) _).alloc (by simp) _
                have hct := CT.start (lp := lp) HWB.out hbx (bz := WB.heap.size) (gi := (WB.heap.size + 1)) (by omega) (by omega) (by simp only [maxLen]; omega) hgi hbt
                have hHeld := HSS.out _ (bt HWB.out (Nat.le_refl _) hbx)
                refine wpAnyT_take (i := 6) (oi := { dst := some 63, op := Op.build 49 #[(0, Operand.tmp 60), (2, Operand.tmp 62)], type := 49, pos := "ref.go:201", after := #[{ on := 3, ground := Ground.data }, { on := 5, ground := Ground.data }], guard := none }) (v := ?v6r6q4) rfl (by kernel_rfl) (fun _ _ _ h => h) (by rfl) hHeld ?h6r6q4 ?_
                case h6r6q4 => (intro w' hSw; (try dsimp only at hSw); go_simp; try with_reducible rfl)
                (try simp only [Act.put, zA, zB, zC])
                clear hHeld
                refine wpAnyT_one (i := 8) rfl (by kernel_rfl) (fun K hK => ?_)
                rw [if_pos (by rfl)]
                refine wp_store_row 49 (.tmp 10) (.tmp 63) rfl WB.heap.size #[.slice (some ⟨(WB.heap.size + 1), 0, none⟩) nL nL, .slice none 0 0, .int .i64 lp] rfl rfl 49 _ hbt (by kernel_rfl) rfl (by simp [Value.oneCell']) (hK.out _ _ (fun _ => HSS.out _ hct.below) ?_)
                refine wpAnyT_done (by kernel_rfl) ?_
                go_wp2_with fail
                go_meet
                exact ⟨WB.heap.size, (WB.heap.size + 1), rfl, hct⟩
            case rest =>
              obtain ⟨bz, gi, rfl, hct⟩ := hcut
              have HCT := Lib.hid hct
              clear hct hmkb
              have HBL : Hid ((backI C).length = nL) := Lib.hid (by simp [backI, HN.out.2.1])
              obtain ⟨_, ⟨b1, b2⟩, _, _, _⟩ := HALL.out _ HCT.out.below
              go_wp2
              clear b1 b2
              go_loopg [11] nL (fun j iv wx => ∃ k : Nat, k ≤ nL ∧ j = nL - k ∧ iv = .int .i64 k ∧ CT W1 wx bz (.slice (some ⟨gi, 0, none⟩) nL nL) (.slice none 0 0) lp ((backI C).take k ++ List.replicate (nL - k) false) [] [])
              case atStart => exact ⟨0, Nat.zero_le _, rfl, rfl, by simpa using HCT.out⟩
              case round =>
                obtain ⟨k, hk, hgk, rfl, ht⟩ := hrel
                subst hgk
                have HT := Lib.hid ht
                clear ht HCT
                obtain ⟨_, ⟨b1, b2⟩, ⟨b12, b13⟩, ⟨b0, b01, b02⟩, _, hbw⟩ := HALL.out _ HT.out.below
                by_cases hlt : k < nL
                · obtain ⟨x, hx⟩ : ∃ x, C.latches[k]? = some x := ⟨_, List.getElem?_eq_getElem (by rw [HN.out.2.1]; exact hlt)⟩
                  obtain ⟨lb, off, e, hlb, hcell⟩ := HRL.out k x hx
                  subst e
                  obtain ⟨x0, x1, x2⟩ := x
                  have i2 := (hbw.cell (p := ⟨lb, off + (k * 3 + 2), none⟩) hlb).trans (hcell 2 _ rfl)
                  simp only [← Nat.add_assoc] at i2
                  have hk0 : (0 : Int) ≤ (k : Int) := by omega
                  have hk1 : (k : Int) < (nL : Int) := by omega
                  have hLl : ((backI C).take k ++ List.replicate (nL - k) false).length = nL := fillT_len HBL.out hk
                  have HD := HT.out.on ((Below.refl wr.heap.size wr).drew)
                  obtain ⟨hN, ⟨u, hcu⟩, hfz, hgl⟩ := CT.ini_ HD hLl hlt (decide (x2 = 1))
                  have hst : ((backI C).take k ++ List.replicate (nL - k) false).set k (decide (x2 = 1)) = (backI C).take (k + 1) ++ List.replicate (nL - (k + 1)) false := fillT_set HBL.out (by unfold backI; rw [List.getElem?_map, hx]; rfl)
                  rw [hst] at hN
                  have HN2 := Lib.hid hN
                  have HFX := Lib.hid (And.intro hcu (And.intro hfz hgl))
                  have m0 := HT.out.blk.cell 0
                  simp only [List.getElem?_toArray, List.getElem?_cons_zero] at m0
                  have hdec : (x2 == (1 : Int)) = decide (x2 = 1) := rfl
                  clear hx hcell hlb hbw HD hcu hfz hgl hst hN hLl
                  go_upto_region 10 with (fail)
                  go_still_tail 11, (by kernel_rfl)
                  change wpList _ _ _ _ _ wr.drew
                  obtain ⟨hcu, hfz, hgl⟩ := HFX.out
                  generalize wr.drew = wd at *
                  go_wp2
                  go_roundg (nL - (k + 1))
                  case measure => omega
                  case rel => exact ⟨k + 1, by omega, rfl, by go_num, HN2.out⟩
                · have hk1 : ¬ (k : Int) < (nL : Int) := by omega
                  have hkn : k = nL := by omega
                  have HT2 : Hid (CT W1 wr bz (.slice (some ⟨gi, 0, none⟩) nL nL) (.slice none 0 0) lp (backI C) [] []) := Lib.hid (by
                    have := HT.out
                    rwa [List.take_of_length_le (by rw [HBL.out, hkn]; exact Nat.le_refl _), hkn, Nat.sub_self, List.replicate_zero, List.append_nil] at this)
                  clear HT hkn hbw
                  go_wp2
                  clear b1 b2 b12 b13 b0 b01 b02
                  go_loopg [12] nT (fun j iv wx => ∃ (q : Nat) (R : List Bool), q ≤ nT ∧ j = nT - q ∧ iv = .int .i64 q ∧ R.length = nL ∧ putS R (T.drop q) (t.init.drop q) = putS (backI C) T t.init ∧ CT W1 wx bz (.slice (some ⟨gi, 0, none⟩) nL nL) (.slice none 0 0) lp R [] [])
                  case atStart => exact ⟨0, _, Nat.zero_le _, rfl, rfl, HBL.out, rfl, HT2.out⟩
                  case round =>
                    obtain ⟨q, R, hq, hgk, rfl, hRl, hre, ht⟩ := hrel
                    subst hgk
                    have HT := Lib.hid ht
                    have HRE := Lib.hid hre
                    have HRL2 := Lib.hid hRl
                    clear ht hre hRl HT2
                    obtain ⟨_, ⟨b1, b2⟩, ⟨b12, b13⟩, ⟨b0, b01, b02⟩, _, hbw⟩ := HALL.out _ HT.out.below
                    by_cases hlt : q < nT
                    · obtain ⟨x, hx⟩ : ∃ x, T[q]? = some x := ⟨_, List.getElem?_eq_getElem (by rw [HN.out.2.2.2.2.2.1]; exact hlt)⟩
                      obtain ⟨y, hy⟩ : ∃ y, t.init[q]? = some y := ⟨_, List.getElem?_eq_getElem (by rw [HN.out.2.2.2.1, HQT.out]; exact hlt)⟩
                      obtain ⟨lb, off, e, hlb, hcell⟩ := HRTT.out q x hx
                      obtain ⟨lb2, off2, e2, hlb2, hcell2⟩ := HRQ.out q y hy
                      subst e e2
                      have h0 := (hbw.cell (p := ⟨lb, off + (q * 1 + 0), none⟩) hlb).trans (hcell 0 _ rfl)
                      have h2 := (hbw.cell (p := ⟨lb2, off2 + (q * 1 + 0), none⟩) hlb2).trans (hcell2 0 _ rfl)
                      simp only [Nat.add_zero, Nat.mul_one] at h0 h2
                      obtain ⟨hx0, hx1⟩ := riseB_rng HRAB.out.2 x (List.mem_of_getElem? hx)
                      have hx00 : (0 : Int) ≤ x := by omega
                      have hk0 : (0 : Int) ≤ (q : Int) := by omega
                      have hk1 : (q : Int) < (nT : Int) := by omega
                      have hk2 : (q : Int) < (nQ : Int) := by have := HQT.out; omega
                      have HD := HT.out.on ((Below.refl wr.heap.size wr).drew)
                      obtain ⟨hN, ⟨u, hcu⟩, hfz, hgl⟩ := CT.ini_ HD HRL2.out (q := x.toNat) (by omega) y
                      have HR2 : Hid (putS (R.set x.toNat y) (T.drop (q + 1)) (t.init.drop (q + 1)) = putS (backI C) T t.init) := Lib.hid ((putS_at hx hy).symm.trans HRE.out)
                      have HLN : Hid ((R.set x.toNat y).length = nL) := Lib.hid (by rw [List.length_set]; exact HRL2.out)
                      have HN2 := Lib.hid hN
                      have HFX := Lib.hid (And.intro hcu (And.intro hfz hgl))
                      have m0 := HT.out.blk.cell 0
                      simp only [List.getElem?_toArray, List.getElem?_cons_zero] at m0
                      clear hx hy hcell hlb hcell2 hlb2 hbw HD hcu hfz hgl hN HRE hx0
                      go_upto_region 14 with (fail)
                      go_still_tail 13, (by kernel_rfl)
                      change wpList _ _ _ _ _ wr.drew
                      obtain ⟨hcu, hfz, hgl⟩ := HFX.out
                      generalize wr.drew = wd at *
                      go_wp2
                      go_roundg (nT - (q + 1))
                      case measure => omega
                      case rel => exact ⟨q + 1, _, by omega, rfl, by go_num, HLN.out, HR2.out, HN2.out⟩
                    · have hk1 : ¬ (q : Int) < (nT : Int) := by omega
                      have hqn : q = nT := by omega
                      have HR2 : Hid (R = putS (backI C) T t.init) := Lib.hid (by rw [← HRE.out, show q = T.length by rw [HN.out.2.2.2.2.2.1]; exact hqn]; exact putS_end.symm)
                      have HT2 : Hid (CT W1 wr bz (.slice (some ⟨gi, 0, none⟩) nL nL) (.slice none 0 0) lp (putS (backI C) T t.init) [] []) := Lib.hid (by rw [← HR2.out]; exact HT.out)
                      clear HT hqn hbw HRE HR2 HRL2 HBL
                      go_wp2
                      clear b1 b2 b12 b13 b0 b01 b02
                      go_loopg [13] nR (fun j iv wx => ∃ (k : Nat) (ow : Value) (us : List Value), k ≤ nR ∧ j = nR - k ∧ iv = .int .i64 k ∧ (∀ r ∈ t.rows.take k, r.length = nP) ∧ CT W1 wx bz (.slice (some ⟨gi, 0, none⟩) nL nL) ow lp (putS (backI C) T t.init) us ((t.rows.map (backR C I)).take k))
                      case atStart => exact ⟨0, _, _, Nat.zero_le _, rfl, rfl, by simp, by simpa using HT2.out⟩
                      case round =>
                        obtain ⟨k, ow, us, hk, hgk, rfl, hall3, ht⟩ := hrel
                        subst hgk
                        obtain ⟨W3, hW3⟩ : ∃ W3, W3 = wr := ⟨_, rfl⟩
                        subst hW3
                        have hul : us.length = k := by rw [ht.len, List.length_take, List.length_map, HN.out.2.2.1]; omega
                        have HUL := Lib.hid hul
                        obtain ⟨oA, oc, hoe⟩ := own_slice1 ht.o
                        rw [hul] at hoe
                        subst hoe
                        have HT := Lib.hid ht
                        have HR3 := Lib.hid hall3
                        clear ht hall3 HT2 hul
                        obtain ⟨_, ⟨b1, b2⟩, ⟨b12, b13⟩, ⟨b0, b01, b02⟩, _, hbw⟩ := HALL.out _ HT.out.below
                        by_cases hlt : k < nR
                        · obtain ⟨x, hx⟩ : ∃ x, t.rows[k]? = some x := ⟨_, List.getElem?_eq_getElem (by rw [HN.out.2.2.1]; exact hlt)⟩
                          obtain ⟨rb, roff, u0, e, hrb, hrc, hrw⟩ := HRR.out k x hx
                          subst e
                          obtain ⟨uA, uc, hue, hlU, hmU, hrU⟩ := hrw
                          subst hue
                          have i0 := (hbw.cell (p := ⟨rb, roff + k, none⟩) hrb).trans hrc
                          have HRC := Lib.hid (And.intro hrb hrc)
                          have HRU := Lib.hid hrU
                          have HX := Lib.hid hx
                          obtain ⟨un, hun⟩ : ∃ un, x.length = un := ⟨_, rfl⟩
                          rw [hun] at i0 HRC
                          have HUN := Lib.hid hun
                          have hk0 : (0 : Int) ≤ (k : Int) := by omega
                          have hk1 : (k : Int) < (nR : Int) := by omega
                          clear hx hrb hrc hlU hmU hrU hun hbw
                          by_cases hxn : un = nP
                          · have hqq : ((un : Int) != (nP : Int)) = false := by simp [hxn]
                            have HXN := Lib.hid hxn
                            clear hxn
                            have hbm : Below W3.heap.size W3 (W3.drew.alloc (.cells (madeCells #[Value.bool false] nI) 4)) := (Below.refl _ _).drew.alloc (Nat.le_refl _) _
                            have hgn : Tab (W3.drew.alloc (.cells (madeCells #[Value.bool false] nI) 4)) W3.heap.size (List.replicate nI false) := by
                              have h9 := Blk.new W3.drew 4 (madeCells #[Value.bool false] nI)
                              rw [made_bool] at h9 ⊢
                              exact h9
                            have HST := Lib.hid (And.intro hbm hgn)
                            clear hbm hgn
                            go_upto_region 18 with (fail)
                            go_region
                            go_wp2
                            clear b1 b2 b12 b13 b0 b01 b02 i0
                            go_loopg [15] nP (fun j iv wx => ∃ (q : Nat) (R : List Bool), q ≤ nP ∧ j = nP - q ∧ iv = .int .i64 q ∧ R.length = nI ∧ putS R (I.drop q) (x.drop q) = backR C I x ∧ Below W3.heap.size W3 wx ∧ Tab wx W3.heap.size R)
                            case atStart => exact ⟨0, _, Nat.zero_le _, rfl, rfl, by simp, by unfold backR; rw [HN.out.1]; rfl, HST.out.1, HST.out.2⟩
                            case round =>
                              obtain ⟨q, R, hq, hgk, rfl, hRl, hre, hbx, htb⟩ := hrel
                              subst hgk
                              have HRE := Lib.hid hre
                              have HRL2 := Lib.hid hRl
                              have HBX := Lib.hid hbx
                              have HTB := Lib.hid htb
                              clear hre hRl hbx htb HST
                              obtain ⟨_, ⟨b1, b2⟩, ⟨b12, b13⟩, ⟨b0, b01, b02⟩, _, hbw⟩ := HALL.out _ (bt HT.out.below (Nat.le_refl _) HBX.out)
                              by_cases hlq : q < nP
                              · obtain ⟨y, hy⟩ : ∃ y, I[q]? = some y := ⟨_, List.getElem?_eq_getElem (by rw [HN.out.2.2.2.2.1]; exact hlq)⟩
                                obtain ⟨z, hz⟩ : ∃ z, x[q]? = some z := ⟨_, List.getElem?_eq_getElem (by rw [HUN.out, HXN.out]; exact hlq)⟩
                                obtain ⟨lb, off, e, hlb, hcell⟩ := HRP.out q y hy
                                obtain ⟨lb2, off2, e2, hlb2, hcell2⟩ := HRU.out q z hz
                                subst e e2
                                have h0 := (hbw.cell (p := ⟨lb, off + (q * 1 + 0), none⟩) hlb).trans (hcell 0 _ rfl)
                                have h2 := (hbw.cell (p := ⟨lb2, off2 + (q * 1 + 0), none⟩) hlb2).trans (hcell2 0 _ rfl)
                                have i0 := (hbw.cell (p := ⟨rb, roff + k, none⟩) HRC.out.1).trans HRC.out.2
                                simp only [Nat.add_zero, Nat.mul_one] at h0 h2
                                obtain ⟨hx0, hx1⟩ := riseB_rng HRAB.out.1 y (List.mem_of_getElem? hy)
                                have hx00 : (0 : Int) ≤ y := by omega
                                have hq0 : (0 : Int) ≤ (q : Int) := by omega
                                have hq1 : (q : Int) < (nP : Int) := by omega
                                have hq2 : (q : Int) < (un : Int) := by have := HXN.out; omega
                                obtain ⟨z0, hz0⟩ : ∃ z0, R[y.toNat]? = some z0 := ⟨_, List.getElem?_eq_getElem (by rw [HRL2.out]; omega)⟩
                                have HTD : Hid (Tab wr.drew W3.heap.size R) := Lib.hid HTB.out
                                have HFX := Lib.hid (And.intro (HTD.out.cell hz0) (And.intro (Blk.frozen HTD.out y.toNat) (Blk.lt HTD.out)))
                                have HUNX := Lib.hid (HTD.out.set_ y.toNat z)
                                have HBNX := Lib.hid (HBX.out.drew.setCell (p := ⟨W3.heap.size, y.toNat, none⟩) (Nat.le_refl _) (.bool z))
                                have HR2 : Hid (putS (R.set y.toNat z) (I.drop (q + 1)) (x.drop (q + 1)) = backR C I x) := Lib.hid ((putS_at hy hz).symm.trans HRE.out)
                                have HLN : Hid ((R.set y.toNat z).length = nI) := Lib.hid (by rw [List.length_set]; exact HRL2.out)
                                clear hy hz hz0 hcell hlb hcell2 hlb2 hbw HRE hx0 HTD
                                go_upto_region 24 with (fail)
                                go_still_tail 15, (by kernel_rfl)
                                change wpList _ _ _ _ _ wr.drew
                                obtain ⟨hcu, hfz, hgl⟩ := HFX.out
                                generalize wr.drew = wd at *
                                go_wp2
                                go_roundg (nP - (q + 1))
                                case measure => omega
                                case rel => exact ⟨q + 1, _, by omega, rfl, by go_num, HLN.out, HR2.out, HBNX.out, HUNX.out⟩
                              · have hq1 : ¬ (q : Int) < (nP : Int) := by omega
                                have hqn : q = nP := by omega
                                have HR2 : Hid (R = backR C I x) := Lib.hid (by rw [← HRE.out, show q = I.length by rw [HN.out.2.2.2.2.1]; exact hqn]; exact putS_end.symm)
                                clear hqn hbw HRE
                                have HOW : Hid (wr.ownsRow W3.heap.size 4 1 (.slice (some ⟨W3.heap.size, 0, none⟩) nI nI) (backR C I x).length ((backR C I x).map Value.bool)) := Lib.hid (by
                                  have h9 := tab_ownO HTB.out (Nat.le_refl _) (by rw [HRL2.out]; simp only [maxLen]; omega)
                                  rw [← HR2.out]
                                  rw [HRL2.out] at h9 ⊢
                                  exact h9)
                                have HTK : Hid ((t.rows.map (backR C I)).take (k + 1) = (t.rows.map (backR C I)).take k ++ [backR C I x]) := Lib.hid (by rw [List.take_add_one, List.getElem?_map, HX.out]; rfl)
                                have HLR : Hid (∀ r ∈ t.rows.take (k + 1), r.length = nP) := Lib.hid (fun r hr => by
                                  rw [List.take_add_one, HX.out] at hr
                                  rcases List.mem_append.1 hr with h | h
                                  · exact HR3.out r h
                                  · have h8 : r = x := by simpa using h
                                    rw [h8, HUN.out]
                                    exact HXN.out)
                                have m1 := (HT.out.blk.below HBX.out HT.out.blk.lt).cell 1
                                simp only [List.getElem?_toArray, List.getElem?_cons_zero, List.getElem?_cons_succ] at m1
                                obtain ⟨iB, hiB, hBz0, hBz1, hBz2⟩ := info_of2 infoBB
                                clear HR2
                                go_wp2_with (at_builtin; refine wpList_append_any _ rfl (.tmp 147) (.tmp 149) _ rfl W1.heap.size 46 iB _ 1 24 Try.underlying47 hiB hBz0 hBz1 hBz2 rfl (by omega) (.slice oA k oc) k us rfl (by have h9 := own_below HT.out.o HBX.out; rw [HUL.out] at h9; exact h9.alloc _) (wr.heap.size + 1) (some ⟨wr.heap.size, 0, none⟩) 1 1 [.slice (some ⟨W3.heap.size, 0, none⟩) nI nI] rfl (reads_one _ _ _) (by simp [Value.oneCell']) (by simp only [maxLen]; omega) (by omega) (by have := HT.out.below.size; have := HBX.out.size; simp; omega) ?_; intro v3 w7 hown3 hg3 hat3; obtain ⟨A3, k3, he3⟩ := own_slice1 hown3; subst he3; obtain ⟨hbk3, hct3⟩ := HT.out.put HBX.out HOW.out _ (by rw [HUL.out]; exact hown3) hg3; have HC3 := Lib.hid hct3; have q0 := hbk3.cell 1; have q1 := hbk3.frozen 1; have q2 := hbk3.lt; simp only [List.getElem?_toArray, List.getElem?_cons_zero, List.getElem?_cons_succ] at q0; clear hown3 hg3 hat3 hbk3 hct3)
                                go_roundg (nR - (k + 1))
                                case measure => omega
                                case rel => exact ⟨k + 1, _, _, by omega, rfl, by go_num, HLR.out, by rw [HTK.out]; exact HC3.out⟩
                          · have hqq : ((un : Int) != (nP : Int)) = true := by simp; omega
                            have HE4 : Hid (traE C I T t = 4 ∧ traR C I T t = ⟨[], [], 0⟩) := Lib.hid (by
                              have h4 : traE C I T t = 4 := by rw [HE.out, if_neg (by rintro ⟨_, _, h⟩; rw [fitC_row (List.mem_of_getElem? HX.out) (by rw [HUN.out]; exact hxn)] at h; cases h)]
                              exact ⟨h4, traR_no (by rw [h4]; decide)⟩)
                            have HB4 := Lib.hid HT.out.below.drew
                            go_upto_region 18 with (fail)
                            go_region
                            clear b1 b2 b12 b13 b0 b01 b02 i0
                            have HRS := Lib.hid (HALL.out W3.drew HB4.out).2.2.2.2
                            go_wp2_with (refine wpList_store_row rfl 49 (.tmp 6) (.tmp 119) rfl (w.heap.size + 1 + 1 + 1) #[.slice none 0 0, .slice none 0 0, .int .i64 0] rfl rfl 49 _ HRS.out.1 (by kernel_rfl) rfl (by simp [Value.oneCell']) ?_)
                            have hw9 : Blk (W3.drew.setRow (w.heap.size + 1 + 1 + 1) #[.slice none 0 0, .slice none 0 0, .int .i64 0]) (w.heap.size + 1 + 1 + 1) 49 #[.slice none 0 0, .slice none 0 0, .int .i64 0] := setRow_heap W3.drew _ _ _ _ _ HRS.out.1
                            refine bodyPost_ret (results_cell_one (fn := Try.f18) (p := 6) (q := 7) rfl _ _ (w.heap.size + 1 + 1 + 1) 49 #[.slice none 0 0, .slice none 0 0, .int .i64 0] (0, 0) _ rfl hw9 Try.underlying49 rfl (by kernel_rfl) (.int .i64 4) rfl) rfl ?_
                            have hbel := HRS.out.2
                            refine ⟨⟨hbel.os, hbel.tape, hbel.output, by rw [size_setRow]; exact hbel.size, fun k hk => (setRow_other _ _ _ _ (by omega)).trans (hbel.block k hk)⟩, ⟨.slice none 0 0, .slice none 0 0⟩, ?_, ?_⟩
                            · rw [HE4.out.1, HE4.out.2]
                            · rw [HE4.out.2]
                              exact noT_own _ _
                        · have hk1 : ¬ (k : Int) < (nR : Int) := by omega
                          have hkn : k = nR := by omega
                          have hct : CT W1 W3 bz (.slice (some ⟨gi, 0, none⟩) nL nL) (.slice oA k oc) lp (backT C I T t).init us (backT C I T t).rows := by
                            have h9 := HT.out
                            rwa [List.take_of_length_le (by rw [List.length_map, HN.out.2.2.1]; omega)] at h9
                          have HCT := Lib.hid hct
                          clear hct hbw
                          have hfit : fitC nT nP t = true := (by unfold fitC; simp only [Bool.and_eq_true, decide_eq_true_eq, List.all_eq_true]; exact ⟨by rw [HN.out.2.2.2.1]; exact HQT.out, by rw [HN.out.2.2.1]; omega, fun r hr => HR3.out r (by rw [List.take_of_length_le (by rw [HN.out.2.2.1]; omega)]; exact hr)⟩)
                          have HE0 : Hid (traE C I T t = 0 ∧ traR C I T t = backT C I T t) := Lib.hid (by
                            have h4 : traE C I T t = 0 := by rw [HE.out, if_pos (by refine ⟨?_, ?_, hfit⟩ <;> trivial)]
                            exact ⟨h4, by unfold traR; rw [if_pos h4]⟩)
                          have hbk := (HALL.out _ HCT.out.below).2.2.2.2.1
                          have hfi := HCT.out.fin hbk (.slice (some ⟨gi, 0, none⟩) nL nL) (.slice oA k oc) (.int .i64 lp)
                          have hbf := ((((HALL.out _ HCT.out.below).2.2.2.2.2).setCell (p := ⟨w.heap.size + 1 + 1 + 1, 0, none⟩) (by simp; omega) (.slice (some ⟨gi, 0, none⟩) nL nL)).setCell (p := ⟨w.heap.size + 1 + 1 + 1, 1, none⟩) (by simp; omega) (.slice oA k oc)).setCell (p := ⟨w.heap.size + 1 + 1 + 1, 2, none⟩) (by simp; omega) (.int .i64 lp)
                          have hmb := Blk.set_ (Blk.set_ (Blk.set_ hbk 0 (.slice (some ⟨gi, 0, none⟩) nL nL)) 1 (.slice oA k oc)) 2 (.int .i64 lp)
                          have q0 := hbk.cell 0
                          have q1 := hbk.cell 1
                          have q2 := hbk.cell 2
                          have q4 := hbk.frozen 0
                          have q5 := hbk.frozen 1
                          have q6 := hbk.frozen 2
                          have q8 := hbk.lt
                          have m0 := HCT.out.blk.cell 0
                          have m1 := HCT.out.blk.cell 1
                          have m4 := HCT.out.blk.cell 2
                          simp only [List.getElem?_toArray, List.getElem?_cons_zero, List.getElem?_cons_succ] at q0 q1 q2 m0 m1 m4
                          obtain ⟨X, hX⟩ : ∃ X, X = (((W3.setCell ⟨w.heap.size + 1 + 1 + 1, 0, none⟩ (.slice (some ⟨gi, 0, none⟩) nL nL)).setCell ⟨w.heap.size + 1 + 1 + 1, 1, none⟩ (.slice oA k oc)).setCell ⟨w.heap.size + 1 + 1 + 1, 2, none⟩ (.int .i64 lp)) := ⟨_, rfl⟩
                          rw [← hX] at hfi hbf hmb
                          have HMB : Hid (Blk X (w.heap.size + 1 + 1 + 1) 49 #[.slice (some ⟨gi, 0, none⟩) nL nL, .slice oA k oc, .int .i64 lp]) := Lib.hid (by simpa using hmb)
                          have HFIN := Lib.hid (And.intro hbf hfi)
                          have HXX := Lib.hid hX
                          clear hbk hfi hbf hmb hX hfit hkn
                          go_wp2
                          rw [← HXX.out]
                          refine bodyPost_ret (results_cell_one (fn := Try.f18) (p := 6) (q := 7) rfl _ _ (w.heap.size + 1 + 1 + 1) 49 #[.slice (some ⟨gi, 0, none⟩) nL nL, .slice oA k oc, .int .i64 lp] (0, 0) _ rfl HMB.out Try.underlying49 rfl (by kernel_rfl) (.int .i64 0) rfl) rfl ?_
                          refine ⟨HFIN.out.1, ⟨.slice (some ⟨gi, 0, none⟩) nL nL, .slice oA k oc⟩, ?_, ?_⟩
                          · rw [HE0.out.1, HE0.out.2, show (backT C I T t).loop = lp from HN.out.2.2.2.2.2.2]
                          · rw [HE0.out.2]
                            exact OwnT.le HFIN.out.2 (by have := HS1.out; omega)
        · have hqq : ((nQ : Int) != (nT : Int)) = true := by simp; omega
          have HE4 : Hid (traE C I T t = 4 ∧ traR C I T t = ⟨[], [], 0⟩) := Lib.hid (by
            have h4 : traE C I T t = 4 := by rw [HE.out, if_neg (by rintro ⟨_, _, h⟩; have := (fitC_parts h).1; rw [HN.out.2.2.2.1] at this; exact hqt this)]
            exact ⟨h4, traR_no (by rw [h4]; decide)⟩)
          go_upto_region 5 with (first | (go_at_call_of 40 (Value.slice AP nP cP); refine (HRI.out w2 HB2.out (nI : Int)).mono ?_; rw [hra]; rintro e w3 ⟨rfl, hb3⟩; have HB3 := Lib.hid (bt HB2.out (Nat.le_refl _) hb3); clear hb3 b1 b2 b12 b13 b0 b01 b02; obtain ⟨_, ⟨b1, b2⟩, ⟨b12, b13⟩, ⟨b0, b01, b02⟩, _⟩ := HALL.out w3 HB3.out) | (go_at_call_of 40 (Value.slice AT nT cT); refine (HRT.out w3 HB3.out (nL : Int)).mono ?_; rw [hrb]; rintro e w4 ⟨rfl, hb4⟩; have HB4 := Lib.hid (bt HB3.out (Nat.le_refl _) hb4); clear hb4 b1 b2 b12 b13 b0 b01 b02; obtain ⟨_, ⟨b1, b2⟩, ⟨b12, b13⟩, ⟨b0, b01, b02⟩, _⟩ := HALL.out w4 HB4.out))
          clear b1 b2 b12 b13 b0 b01 b02
          have HRS := Lib.hid (HALL.out w4 HB4.out).2.2.2.2
          go_wp2_with (refine wpList_store_row rfl 49 (.tmp 6) (.tmp 56) rfl (w.heap.size + 1 + 1 + 1) #[.slice none 0 0, .slice none 0 0, .int .i64 0] rfl rfl 49 _ HRS.out.1 (by kernel_rfl) rfl (by simp [Value.oneCell']) ?_)
          have hw9 : Blk (w4.setRow (w.heap.size + 1 + 1 + 1) #[.slice none 0 0, .slice none 0 0, .int .i64 0]) (w.heap.size + 1 + 1 + 1) 49 #[.slice none 0 0, .slice none 0 0, .int .i64 0] := setRow_heap w4 _ _ _ _ _ HRS.out.1
          refine bodyPost_ret (results_cell_one (fn := Try.f18) (p := 6) (q := 7) rfl _ _ (w.heap.size + 1 + 1 + 1) 49 #[.slice none 0 0, .slice none 0 0, .int .i64 0] (0, 0) _ rfl hw9 Try.underlying49 rfl (by kernel_rfl) (.int .i64 4) rfl) rfl ?_
          have hbel := HRS.out.2
          refine ⟨⟨hbel.os, hbel.tape, hbel.output, by rw [size_setRow]; exact hbel.size, fun k hk => (setRow_other _ _ _ _ (by omega)).trans (hbel.block k hk)⟩, ⟨.slice none 0 0, .slice none 0 0⟩, ?_, ?_⟩
          · rw [HE4.out.1, HE4.out.2]
          · rw [HE4.out.2]
            exact noT_own _ _
  · obtain ⟨a, r, hr⟩ : ∃ a r, checkR C = (a, r) := ⟨_, _, rfl⟩
    have HEr : Hid (traE C I T t = r ∧ traR C I T t = ⟨[], [], 0⟩) := Lib.hid (by
      have h4 : traE C I T t = r := by unfold traE; rw [if_pos hz, hr]
      exact ⟨h4, traR_no (by rw [h4]; rw [hr] at hz; exact hz)⟩)
    rw [hr] at hck hz
    have hq : (r != 0) = true := by simpa using hz
    have HCK := Lib.hid hck
    clear h ok htn hu hck hr hz hW1 hb1 hrL hrr hrQ hrP hrT hIw hTw hmR hlQ hmQ hlP hmP hlT hmT
    dsimp only [TV.val, TV.cells, CV.val, CV.cells, cutCells] at HCK HW1 HC1 HALL ⊢
    go_enter Try.func18, Try.ntmps18
    go_upto_region 1 with (fail)
    rw [HW1.out]
    go_upto_region 3 with (first
      | (refine wpList_load_row rfl 29 (.tmp 3) rfl w.heap.size rfl 29 #[.int .i64 C.max, .slice AI C.inputs.length cI, .slice AL C.latches.length cL, Vo, Vb, Vc, Vj, Vf, Va, Vs, Vt] (0, 0) _ HC1.out.1 Try.underlying29 rfl (by kernel_rfl) ?_)
      | (go_at_call 29; refine HCK.out.mono ?_; rintro e w2 ⟨rfl, hb2⟩; have HB2 := Lib.hid hb2; clear hb2))
    have HRS := Lib.hid (HALL.out w2 HB2.out).2.2.2.2
    go_wp2_with (refine wpList_store_row rfl 49 (.tmp 6) (.tmp 23) rfl (w.heap.size + 1 + 1 + 1) #[.slice none 0 0, .slice none 0 0, .int .i64 0] rfl rfl 49 _ HRS.out.1 (by kernel_rfl) rfl (by simp [Value.oneCell']) ?_)
    have hw9 : Blk (w2.setRow (w.heap.size + 1 + 1 + 1) #[.slice none 0 0, .slice none 0 0, .int .i64 0]) (w.heap.size + 1 + 1 + 1) 49 #[.slice none 0 0, .slice none 0 0, .int .i64 0] := setRow_heap w2 _ _ _ _ _ HRS.out.1
    refine bodyPost_ret (results_cell_one (fn := Try.f18) (p := 6) (q := 7) rfl _ _ (w.heap.size + 1 + 1 + 1) 49 #[.slice none 0 0, .slice none 0 0, .int .i64 0] (0, 0) _ rfl hw9 Try.underlying49 rfl (by kernel_rfl) (.int .i64 r) rfl) rfl ?_
    have hbel := HRS.out.2
    refine ⟨⟨hbel.os, hbel.tape, hbel.output, by rw [size_setRow]; exact hbel.size, fun k hk => (setRow_other _ _ _ _ (by omega)).trans (hbel.block k hk)⟩, ⟨.slice none 0 0, .slice none 0 0⟩, ?_, ?_⟩
    · rw [HEr.out.1, HEr.out.2]
    · rw [HEr.out.2]
      exact noT_own _ _
end Go.Proofs.Ytagffmalmkcboaa

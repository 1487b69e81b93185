/- Sim: the contracts of the program's calls Values, Next, Holds. -/
import Derived.Test.YtbeaicmjohlboabSimD
namespace Go.Proofs.Ytbeaicmjohlboab
open Go.RowKit

/-- What is refused of a state and a row. -/
def fitE (C : Circ) (st row : List Bool) : Int := if (checkR C).2 = 0 then (if st.length = C.latches.length ∧ row.length = C.inputs.length then 0 else 4) else (checkR C).2
theorem slO_form {w : World} {v : Value} {t : List Bool} (h : RowE 1 encO w v t) : ∃ A n c, v = .slice A n c := by
  obtain ⟨A, c, e, _⟩ := h
  exact ⟨A, _, c, e⟩
theorem fitE_ok {C : Circ} {st row : List Bool} (h : fitE C st row = 0) : (checkR C).2 = 0 ∧ st.length = C.latches.length ∧ row.length = C.inputs.length := by
  unfold fitE at h
  by_cases h0 : (checkR C).2 = 0
  · rw [if_pos h0] at h
    by_cases h1 : st.length = C.latches.length ∧ row.length = C.inputs.length
    · exact ⟨h0, h1⟩
    · rw [if_neg h1] at h; cases h
  · rw [if_neg h0] at h; exact absurd h h0
theorem fitE_not {C : Circ} {st row : List Bool} (h : (checkR C).2 = 0) (h1 : ¬ (st.length = C.latches.length ∧ row.length = C.inputs.length)) : fitE C st row = 4 := by unfold fitE; rw [if_pos h, if_neg h1]
theorem fitE_bad {C : Circ} {st row : List Bool} (h : (checkR C).2 ≠ 0) : fitE C st row = (checkR C).2 := by unfold fitE; rw [if_neg h]
theorem fitE_yes {C : Circ} {st row : List Bool} (h : (checkR C).2 = 0) (h1 : st.length = C.latches.length) (h2 : row.length = C.inputs.length) : fitE C st row = 0 := by unfold fitE; rw [if_pos h, if_pos ⟨h1, h2⟩]

set_option maxHeartbeats 4000000 in
set_option maxRecDepth 100000 in
theorem Values_any (w : World) (V : CV) (C : Circ) (sv rv : Value) (st row : List Bool) (O : List Int) (h : C.In w V) (ok : C.Ok) (hs : RowE 1 encO w sv st) (hr : RowE 1 encO w rv row) (hO : (checkR C).2 = 0 → IsOrd C O) :
    Calls Try.prog 23 #[V.val C.max, sv, rv] w fun e w' => Below w.heap.size w w' ∧ ∃ v, e = .returned (.tuple #[v, .int .i64 (fitE C st row)]) ∧ (fitE C st row ≠ 0 → v = .slice none 0 0) ∧
      (fitE C st row = 0 → ∃ g, v = .slice (some ⟨g, 0, none⟩) (C.max.toNat + 1) (C.max.toNat + 1) ∧ w.heap.size ≤ g ∧ Tab w' g (valF C O st row)) := by
  have hord := Order_any (w.alloc (.cells (V.cells C.max) 51)) V C (h.below ((Below.refl w.heap.size w).alloc (Nat.le_refl _) _)) ok
  have HSF := Lib.hid (fun (wx : World) (hx : C.In wx V) (hy : RowE 1 encO wx sv st) => stateFits_any wx V C sv st hx hy)
  have HRF := Lib.hid (fun (wx : World) (hx : C.In wx V) (hy : RowE 1 encO wx rv row) => rowFits_any wx V C rv row hx hy)
  have HVO := Lib.hid (fun (wx : World) (gv : Value) (hx : C.In wx V) (hg : RowE 1 encI wx gv O) (hy : RowE 1 encO wx sv st) (hz : RowE 1 encO wx rv row) (h0 : fitE C st row = 0) =>
    valuesOf_any wx V C gv sv rv O st row hx hg hy hz (right_of (fitE_ok h0).1) (fitE_ok h0).2.1 (fitE_ok h0).2.2 (hO (fitE_ok h0).1).inR (by rw [(hO (fitE_ok h0).1).l]; exact (right_of (fitE_ok h0).1).na))
  have hall : ∀ wz, Below (w.alloc (.cells (V.cells C.max) 51)).heap.size (w.alloc (.cells (V.cells C.max) 51)) wz → Blk wz w.heap.size 51 (V.cells C.max) ∧ C.In wz V ∧ RowE 1 encO wz sv st ∧ RowE 1 encO wz rv row ∧ Below w.heap.size w wz := fun wz hb => by
    have h1 : Below w.heap.size w wz := ((Below.refl w.heap.size w).alloc (Nat.le_refl _) _).trans (hb.mono (by simp))
    exact ⟨(Blk.new w _ _).below hb (by simp), h.below h1, hs.below h1, hr.below h1, h1⟩
  have HX : Hid (Below (w.alloc (.cells (V.cells C.max) 51)).heap.size (w.alloc (.cells (V.cells C.max) 51)) (w.alloc (.cells (V.cells C.max) 51))) := Lib.hid (Below.refl _ _)
  obtain ⟨Vi, Vl, Vo, Vb, Vc, Vj, Vf, Va, Vs, Vt⟩ := V
  obtain ⟨m, hmm⟩ : ∃ m, C.max = m := ⟨_, rfl⟩
  obtain ⟨r, hrr⟩ : ∃ r, (checkR C).2 = r := ⟨_, rfl⟩
  rw [hmm] at hall HX HSF HRF HVO hord
  rw [hrr] at hord
  rw [hmm]
  obtain ⟨sA, sn, sc, esv⟩ := slO_form hs
  obtain ⟨rA, rn, rc, erv⟩ := slO_form hr
  subst esv erv
  have HALL := Lib.hid hall
  have HORD := Lib.hid hord
  have HO := Lib.hid hO
  have HRR := Lib.hid hrr
  clear hall hord hO hmm h ok hs hr
  obtain ⟨c0, c1, c2, c3, c4, c5, c6, c7, c8, c9, c10⟩ := rbox_of (HALL.out _ HX.out).1
  by_cases h0 : r = 0
  · subst h0
    have HRT := Lib.hid (right_of HRR.out)
    by_cases h1 : st.length = C.latches.length
    · by_cases h2 : row.length = C.inputs.length
      · have HF := Lib.hid (fitE_yes HRR.out h1 h2)
        rw [decide_eq_true h1] at HSF
        rw [decide_eq_true h2] at HRF
        clear h1 h2 hrr
        rw [HF.out]
        go_enter Try.func23, Try.ntmps23
        go_wp2_with (first
          | (go_at_call 46; refine HORD.out.mono ?_; rintro e w1 ⟨hb, v1, out1, rfl, _, hyes⟩; obtain ⟨ho1, hg1, hl1⟩ := hyes rfl; obtain rfl := (HO.out HRR.out).same hg1 hl1; have HO1 := Lib.hid (own_rowe lenI (by rw [flat_ints]; exact ho1)); have HXA := Lib.hid (Below.refl w1.heap.size w1); clear hyes ho1 hg1 hl1; have HXN := Lib.hid (bt HX.out (Nat.le_refl _) hb); clear HX hb c0 c1 c2 c3 c4 c5 c6 c7 c8 c9 c10; have HX := HXN; clear HXN; obtain ⟨c0, c1, c2, c3, c4, c5, c6, c7, c8, c9, c10⟩ := rbox_of (HALL.out _ HX.out).1)
          | (go_at_call 57; refine (HSF.out _ (HALL.out _ HX.out).2.1 (HALL.out _ HX.out).2.2.1).mono ?_; rintro e w2 ⟨rfl, hb⟩; have HO2 := Lib.hid (HO1.out.below hb); have HXN := Lib.hid (bt HX.out (Nat.le_refl _) hb); clear HX hb c0 c1 c2 c3 c4 c5 c6 c7 c8 c9 c10; have HX := HXN; clear HXN; obtain ⟨c0, c1, c2, c3, c4, c5, c6, c7, c8, c9, c10⟩ := rbox_of (HALL.out _ HX.out).1)
          | (go_at_call 58; refine (HRF.out _ (HALL.out _ HX.out).2.1 (HALL.out _ HX.out).2.2.2.1).mono ?_; rintro e w3 ⟨rfl, hb⟩; have HO3 := Lib.hid (HO2.out.below hb); have HXN := Lib.hid (bt HX.out (Nat.le_refl _) hb); clear HX hb c0 c1 c2 c3 c4 c5 c6 c7 c8 c9 c10; have HX := HXN; clear HXN; obtain ⟨c0, c1, c2, c3, c4, c5, c6, c7, c8, c9, c10⟩ := rbox_of (HALL.out _ HX.out).1)
          | (go_at_call 59; refine (HVO.out _ _ (HALL.out _ HX.out).2.1 HO3.out (HALL.out _ HX.out).2.2.1 (HALL.out _ HX.out).2.2.2.1 HF.out).mono ?_; rintro e w4 ⟨g, rfl, hg4, hb, ht4⟩; have HG4 := Lib.hid (And.intro (Nat.le_trans (HALL.out _ HX.out).2.2.2.2.size hg4) ht4); clear hg4 ht4; have HXN := Lib.hid (bt HX.out (Nat.le_refl _) hb); clear HX hb c0 c1 c2 c3 c4 c5 c6 c7 c8 c9 c10; have HX := HXN; clear HXN; obtain ⟨c0, c1, c2, c3, c4, c5, c6, c7, c8, c9, c10⟩ := rbox_of (HALL.out _ HX.out).1))
        go_ret2
        exact ⟨(HALL.out _ HX.out).2.2.2.2, _, rfl, fun h => absurd rfl h, fun _ => ⟨g, rfl, HG4.out.1, HG4.out.2⟩⟩
      · have HF := Lib.hid (fitE_not (C := C) (st := st) (row := row) HRR.out (fun h => h2 h.2))
        rw [decide_eq_true h1] at HSF
        rw [decide_eq_false h2] at HRF
        clear h1 h2 hrr HVO
        rw [HF.out]
        go_enter Try.func23, Try.ntmps23
        go_wp2_with (first
          | (go_at_call 46; refine HORD.out.mono ?_; rintro e w1 ⟨hb, v1, out1, rfl, _, _⟩; have HXN := Lib.hid (bt HX.out (Nat.le_refl _) hb); clear HX hb c0 c1 c2 c3 c4 c5 c6 c7 c8 c9 c10; have HX := HXN; clear HXN; obtain ⟨c0, c1, c2, c3, c4, c5, c6, c7, c8, c9, c10⟩ := rbox_of (HALL.out _ HX.out).1)
          | (go_at_call 57; refine (HSF.out _ (HALL.out _ HX.out).2.1 (HALL.out _ HX.out).2.2.1).mono ?_; rintro e w2 ⟨rfl, hb⟩; have HXN := Lib.hid (bt HX.out (Nat.le_refl _) hb); clear HX hb c0 c1 c2 c3 c4 c5 c6 c7 c8 c9 c10; have HX := HXN; clear HXN; obtain ⟨c0, c1, c2, c3, c4, c5, c6, c7, c8, c9, c10⟩ := rbox_of (HALL.out _ HX.out).1)
          | (go_at_call 58; refine (HRF.out _ (HALL.out _ HX.out).2.1 (HALL.out _ HX.out).2.2.2.1).mono ?_; rintro e w3 ⟨rfl, hb⟩; have HXN := Lib.hid (bt HX.out (Nat.le_refl _) hb); clear HX hb c0 c1 c2 c3 c4 c5 c6 c7 c8 c9 c10; have HX := HXN; clear HXN; obtain ⟨c0, c1, c2, c3, c4, c5, c6, c7, c8, c9, c10⟩ := rbox_of (HALL.out _ HX.out).1))
        go_ret2
        exact ⟨(HALL.out _ HX.out).2.2.2.2, _, rfl, fun _ => rfl, fun h => absurd h (by decide)⟩
    · have HF := Lib.hid (fitE_not (C := C) (st := st) (row := row) HRR.out (fun h => h1 h.1))
      rw [decide_eq_false h1] at HSF
      clear h1 hrr HVO
      rw [HF.out]
      go_enter Try.func23, Try.ntmps23
      go_wp2_with (first
        | (go_at_call 46; refine HORD.out.mono ?_; rintro e w1 ⟨hb, v1, out1, rfl, _, _⟩; have HXN := Lib.hid (bt HX.out (Nat.le_refl _) hb); clear HX hb c0 c1 c2 c3 c4 c5 c6 c7 c8 c9 c10; have HX := HXN; clear HXN; obtain ⟨c0, c1, c2, c3, c4, c5, c6, c7, c8, c9, c10⟩ := rbox_of (HALL.out _ HX.out).1)
        | (go_at_call 57; refine (HSF.out _ (HALL.out _ HX.out).2.1 (HALL.out _ HX.out).2.2.1).mono ?_; rintro e w2 ⟨rfl, hb⟩; have HXN := Lib.hid (bt HX.out (Nat.le_refl _) hb); clear HX hb c0 c1 c2 c3 c4 c5 c6 c7 c8 c9 c10; have HX := HXN; clear HXN; obtain ⟨c0, c1, c2, c3, c4, c5, c6, c7, c8, c9, c10⟩ := rbox_of (HALL.out _ HX.out).1))
      go_ret2
      exact ⟨(HALL.out _ HX.out).2.2.2.2, _, rfl, fun _ => rfl, fun h => absurd h (by decide)⟩
  · have hq : (r != 0) = true := by simpa using h0
    have HF : Hid (fitE C st row = r) := Lib.hid (by rw [fitE_bad (by rw [HRR.out]; exact h0), HRR.out])
    have H0 := Lib.hid h0
    clear h0 hrr HVO
    rw [HF.out]
    go_enter Try.func23, Try.ntmps23
    go_wp2_with (go_at_call 46; refine HORD.out.mono ?_; rintro e w1 ⟨hb, v1, out1, rfl, _, _⟩; have HXN := Lib.hid (bt HX.out (Nat.le_refl _) hb); clear HX hb c0 c1 c2 c3 c4 c5 c6 c7 c8 c9 c10; have HX := HXN; clear HXN; obtain ⟨c0, c1, c2, c3, c4, c5, c6, c7, c8, c9, c10⟩ := rbox_of (HALL.out _ HX.out).1)
    go_ret2
    exact ⟨(HALL.out _ HX.out).2.2.2.2, _, rfl, fun _ => rfl, fun h => absurd h H0.out⟩

set_option maxHeartbeats 4000000 in
set_option maxRecDepth 100000 in
theorem Next_any (w : World) (V : CV) (C : Circ) (sv rv : Value) (st row : List Bool) (O : List Int) (h : C.In w V) (ok : C.Ok) (hs : RowE 1 encO w sv st) (hr : RowE 1 encO w rv row) (hO : (checkR C).2 = 0 → IsOrd C O) :
    Calls Try.prog 25 #[V.val C.max, sv, rv] w fun e w' => Below w.heap.size w w' ∧ ∃ v, e = .returned (.tuple #[v, .int .i64 (fitE C st row)]) ∧ (fitE C st row ≠ 0 → v = .slice none 0 0) ∧
      (fitE C st row = 0 → ∃ g, v = .slice (some ⟨g, 0, none⟩) C.latches.length C.latches.length ∧ w.heap.size ≤ g ∧ Tab w' g (nextF C (valF C O st row))) := by
  have HVAL := Lib.hid (fun (wx : World) (hx : C.In wx V) (hy : RowE 1 encO wx sv st) (hz : RowE 1 encO wx rv row) => Values_any wx V C sv rv st row O hx ok hy hz hO)
  have HNX := Lib.hid (fun (wx : World) (bq g : Nat) (hx : C.In wx V) (hc : wx.cell? ⟨bq, 0, none⟩ = some (.slice (some ⟨g, 0, none⟩) (C.max.toNat + 1) (C.max.toNat + 1))) (hq : bq < wx.heap.size) (ht : Tab wx g (valF C O st row)) (h0 : fitE C st row = 0) =>
    nextOf_any wx V C bq _ (valF C O st row) hx (right_of (fitE_ok h0).1) hc hq (by have h1 := tabT_row ht (by rw [valF_len]; have := (right_of (fitE_ok h0).1).m1; unfold maxLen; omega); rw [valF_len] at h1; exact h1) (valF_len C O st row))
  have hall : ∀ wz, Below (w.alloc (.cells (V.cells C.max) 51)).heap.size (w.alloc (.cells (V.cells C.max) 51)) wz → Blk wz w.heap.size 51 (V.cells C.max) ∧ C.In wz V ∧ RowE 1 encO wz sv st ∧ RowE 1 encO wz rv row ∧ Below w.heap.size w wz := fun wz hb => by
    have h1 : Below w.heap.size w wz := ((Below.refl w.heap.size w).alloc (Nat.le_refl _) _).trans (hb.mono (by simp))
    exact ⟨(Blk.new w _ _).below hb (by simp), h.below h1, hs.below h1, hr.below h1, h1⟩
  have HX : Hid (Below (w.alloc (.cells (V.cells C.max) 51)).heap.size (w.alloc (.cells (V.cells C.max) 51)) (w.alloc (.cells (V.cells C.max) 51))) := Lib.hid (Below.refl _ _)
  obtain ⟨Vi, Vl, Vo, Vb, Vc, Vj, Vf, Va, Vs, Vt⟩ := V
  obtain ⟨m, hmm⟩ : ∃ m, C.max = m := ⟨_, rfl⟩
  rw [hmm] at hall HX HVAL HNX
  rw [hmm]
  obtain ⟨sA, sn, sc, esv⟩ := slO_form hs
  obtain ⟨rA, rn, rc, erv⟩ := slO_form hr
  subst esv erv
  have HALL := Lib.hid hall
  clear hall hmm h ok hs hr
  obtain ⟨c0, c1, c2, c3, c4, c5, c6, c7, c8, c9, c10⟩ := rbox_of (HALL.out _ HX.out).1
  by_cases h0 : fitE C st row = 0
  · have HF := Lib.hid h0
    rw [h0] at HVAL
    rw [h0]
    clear h0
    go_enter Try.func25, Try.ntmps25
    go_upto_region 4 with (go_at_call 23; refine (HVAL.out _ (HALL.out _ HX.out).2.1 (HALL.out _ HX.out).2.2.1 (HALL.out _ HX.out).2.2.2.1).mono ?_; rintro e w1 ⟨hb, v1, rfl, _, hyes⟩; obtain ⟨g, rfl, hg1, ht1⟩ := hyes rfl; have HG1 := Lib.hid hg1; have HT1 := Lib.hid ht1; clear hyes hg1 ht1; have HXN := Lib.hid (bt HX.out (Nat.le_refl _) hb); clear HX hb c0 c1 c2 c3 c4 c5 c6 c7 c8 c9 c10; have HX := HXN; clear HXN; obtain ⟨c0, c1, c2, c3, c4, c5, c6, c7, c8, c9, c10⟩ := rbox_of (HALL.out _ HX.out).1)
    have HXA : Hid (Below (w.alloc (.cells #[.int .i64 m, Vi, Vl, Vo, Vb, Vc, Vj, Vf, Va, Vs, Vt] 51)).heap.size (w.alloc (.cells #[.int .i64 m, Vi, Vl, Vo, Vb, Vc, Vj, Vf, Va, Vs, Vt] 51)) (w1.drew.alloc (.cells #[.slice (some ⟨g, 0, none⟩) (m.toNat + 1) (m.toNat + 1)] 60))) := Lib.hid (HX.out.drew.alloc HX.out.drew.size _)
    have HTA : Hid (Tab (w1.drew.alloc (.cells #[.slice (some ⟨g, 0, none⟩) (m.toNat + 1) (m.toNat + 1)] 60)) g (valF C O st row)) := Lib.hid (Blk.alloc (Blk.drew HT1.out) _)
    have HCA : Hid ((w1.drew.alloc (.cells #[.slice (some ⟨g, 0, none⟩) (m.toNat + 1) (m.toNat + 1)] 60)).cell? ⟨w1.drew.heap.size, 0, none⟩ = some (.slice (some ⟨g, 0, none⟩) (m.toNat + 1) (m.toNat + 1))) := Lib.hid ((Blk.new w1.drew _ _).cell 0)
    have HQA : Hid (w1.drew.heap.size < (w1.drew.alloc (.cells #[.slice (some ⟨g, 0, none⟩) (m.toNat + 1) (m.toNat + 1)] 60)).heap.size) := Lib.hid (by simp)
    go_region_held3 (fun w' => w'.cell? ⟨w.heap.size, 0, none⟩ = some (.int .i64 m) ∧ w'.cell? ⟨w.heap.size, 1, none⟩ = some Vi ∧ w'.cell? ⟨w.heap.size, 2, none⟩ = some Vl ∧ w'.cell? ⟨w.heap.size, 3, none⟩ = some Vo ∧ w'.cell? ⟨w.heap.size, 4, none⟩ = some Vb ∧ w'.cell? ⟨w.heap.size, 5, none⟩ = some Vc ∧ w'.cell? ⟨w.heap.size, 6, none⟩ = some Vj ∧ w'.cell? ⟨w.heap.size, 7, none⟩ = some Vf ∧ w'.cell? ⟨w.heap.size, 8, none⟩ = some Va ∧ w'.cell? ⟨w.heap.size, 9, none⟩ = some Vs ∧ w'.cell? ⟨w.heap.size, 10, none⟩ = some Vt)
      (first | exact rbox_of (HALL.out _ HX.out.drew).1 | exact rbox_of (HALL.out _ HXA.out).1 | exact rbox_of (HALL.out _ HXB.out).1 | go_keep)
      (first
        | (go_at_call 61; refine (asker_any _ _ _ _).mono ?_; rintro e w5 ⟨rfl, rfl⟩)
        | (go_at_call 60; refine (HNX.out _ _ _ (HALL.out _ HXA.out).2.1 HCA.out HQA.out HTA.out HF.out).mono ?_; rintro e w6 ⟨g6, rfl, hg6, hb, ht6⟩; have HXB := Lib.hid (bt HXA.out (Nat.le_refl _) hb); have HG6 := Lib.hid (And.intro (Nat.le_trans (HALL.out _ HXA.out).2.2.2.2.size hg6) ht6); clear hg6 hb ht6))
    go_wp2
    go_ret2
    exact ⟨(HALL.out _ HXB.out).2.2.2.2, _, rfl, fun h => absurd rfl h, fun _ => ⟨g6, rfl, HG6.out.1, HG6.out.2⟩⟩
  · obtain ⟨r, hr⟩ : ∃ r, fitE C st row = r := ⟨_, rfl⟩
    rw [hr] at HVAL h0
    rw [hr]
    have hq : (r != 0) = true := by simpa using h0
    have H0 := Lib.hid h0
    clear h0 hr HNX
    go_enter Try.func25, Try.ntmps25
    go_wp2_with (go_at_call 23; refine (HVAL.out _ (HALL.out _ HX.out).2.1 (HALL.out _ HX.out).2.2.1 (HALL.out _ HX.out).2.2.2.1).mono ?_; rintro e w1 ⟨hb, v1, rfl, hno, _⟩; obtain rfl := hno H0.out; clear hno; have HXN := Lib.hid (bt HX.out (Nat.le_refl _) hb); clear HX hb c0 c1 c2 c3 c4 c5 c6 c7 c8 c9 c10; have HX := HXN; clear HXN; obtain ⟨c0, c1, c2, c3, c4, c5, c6, c7, c8, c9, c10⟩ := rbox_of (HALL.out _ HX.out).1)
    go_ret2
    exact ⟨(HALL.out _ HX.out).2.2.2.2, _, rfl, fun _ => rfl, fun h => absurd h H0.out⟩

set_option maxHeartbeats 4000000 in
set_option maxRecDepth 100000 in
theorem Holds_any (w : World) (V : CV) (C : Circ) (sv rv : Value) (st row : List Bool) (O : List Int) (h : C.In w V) (ok : C.Ok) (hs : RowE 1 encO w sv st) (hr : RowE 1 encO w rv row) (hO : (checkR C).2 = 0 → IsOrd C O) :
    Calls Try.prog 26 #[V.val C.max, sv, rv] w fun e w' => Below w.heap.size w w' ∧ ∃ v, e = .returned (.tuple #[v, .int .i64 (fitE C st row)]) ∧ (fitE C st row ≠ 0 → v = .bool false) ∧
      (fitE C st row = 0 → v = .bool (holdsF C (valF C O st row))) := by
  have HVAL := Lib.hid (fun (wx : World) (hx : C.In wx V) (hy : RowE 1 encO wx sv st) (hz : RowE 1 encO wx rv row) => Values_any wx V C sv rv st row O hx ok hy hz hO)
  have HNX := Lib.hid (fun (wx : World) (bq g : Nat) (hx : C.In wx V) (hc : wx.cell? ⟨bq, 0, none⟩ = some (.slice (some ⟨g, 0, none⟩) (C.max.toNat + 1) (C.max.toNat + 1))) (hq : bq < wx.heap.size) (ht : Tab wx g (valF C O st row)) (h0 : fitE C st row = 0) =>
    holdsBy_any wx V C bq _ (valF C O st row) hx (right_of (fitE_ok h0).1) hc hq (by have h1 := tabT_row ht (by rw [valF_len]; have := (right_of (fitE_ok h0).1).m1; unfold maxLen; omega); rw [valF_len] at h1; exact h1) (valF_len C O st row))
  have hall : ∀ wz, Below (w.alloc (.cells (V.cells C.max) 51)).heap.size (w.alloc (.cells (V.cells C.max) 51)) wz → Blk wz w.heap.size 51 (V.cells C.max) ∧ C.In wz V ∧ RowE 1 encO wz sv st ∧ RowE 1 encO wz rv row ∧ Below w.heap.size w wz := fun wz hb => by
    have h1 : Below w.heap.size w wz := ((Below.refl w.heap.size w).alloc (Nat.le_refl _) _).trans (hb.mono (by simp))
    exact ⟨(Blk.new w _ _).below hb (by simp), h.below h1, hs.below h1, hr.below h1, h1⟩
  have HX : Hid (Below (w.alloc (.cells (V.cells C.max) 51)).heap.size (w.alloc (.cells (V.cells C.max) 51)) (w.alloc (.cells (V.cells C.max) 51))) := Lib.hid (Below.refl _ _)
  obtain ⟨Vi, Vl, Vo, Vb, Vc, Vj, Vf, Va, Vs, Vt⟩ := V
  obtain ⟨m, hmm⟩ : ∃ m, C.max = m := ⟨_, rfl⟩
  rw [hmm] at hall HX HVAL HNX
  rw [hmm]
  obtain ⟨sA, sn, sc, esv⟩ := slO_form hs
  obtain ⟨rA, rn, rc, erv⟩ := slO_form hr
  subst esv erv
  have HALL := Lib.hid hall
  clear hall hmm h ok hs hr
  obtain ⟨c0, c1, c2, c3, c4, c5, c6, c7, c8, c9, c10⟩ := rbox_of (HALL.out _ HX.out).1
  by_cases h0 : fitE C st row = 0
  · have HF := Lib.hid h0
    rw [h0] at HVAL
    rw [h0]
    clear h0
    go_enter Try.func26, Try.ntmps26
    go_upto_region 4 with (go_at_call 23; refine (HVAL.out _ (HALL.out _ HX.out).2.1 (HALL.out _ HX.out).2.2.1 (HALL.out _ HX.out).2.2.2.1).mono ?_; rintro e w1 ⟨hb, v1, rfl, _, hyes⟩; obtain ⟨g, rfl, hg1, ht1⟩ := hyes rfl; have HG1 := Lib.hid hg1; have HT1 := Lib.hid ht1; clear hyes hg1 ht1; have HXN := Lib.hid (bt HX.out (Nat.le_refl _) hb); clear HX hb c0 c1 c2 c3 c4 c5 c6 c7 c8 c9 c10; have HX := HXN; clear HXN; obtain ⟨c0, c1, c2, c3, c4, c5, c6, c7, c8, c9, c10⟩ := rbox_of (HALL.out _ HX.out).1)
    have HXA : Hid (Below (w.alloc (.cells #[.int .i64 m, Vi, Vl, Vo, Vb, Vc, Vj, Vf, Va, Vs, Vt] 51)).heap.size (w.alloc (.cells #[.int .i64 m, Vi, Vl, Vo, Vb, Vc, Vj, Vf, Va, Vs, Vt] 51)) (w1.drew.alloc (.cells #[.slice (some ⟨g, 0, none⟩) (m.toNat + 1) (m.toNat + 1)] 60))) := Lib.hid (HX.out.drew.alloc HX.out.drew.size _)
    have HTA : Hid (Tab (w1.drew.alloc (.cells #[.slice (some ⟨g, 0, none⟩) (m.toNat + 1) (m.toNat + 1)] 60)) g (valF C O st row)) := Lib.hid (Blk.alloc (Blk.drew HT1.out) _)
    have HCA : Hid ((w1.drew.alloc (.cells #[.slice (some ⟨g, 0, none⟩) (m.toNat + 1) (m.toNat + 1)] 60)).cell? ⟨w1.drew.heap.size, 0, none⟩ = some (.slice (some ⟨g, 0, none⟩) (m.toNat + 1) (m.toNat + 1))) := Lib.hid ((Blk.new w1.drew _ _).cell 0)
    have HQA : Hid (w1.drew.heap.size < (w1.drew.alloc (.cells #[.slice (some ⟨g, 0, none⟩) (m.toNat + 1) (m.toNat + 1)] 60)).heap.size) := Lib.hid (by simp)
    go_region_held3 (fun w' => w'.cell? ⟨w.heap.size, 0, none⟩ = some (.int .i64 m) ∧ w'.cell? ⟨w.heap.size, 1, none⟩ = some Vi ∧ w'.cell? ⟨w.heap.size, 2, none⟩ = some Vl ∧ w'.cell? ⟨w.heap.size, 3, none⟩ = some Vo ∧ w'.cell? ⟨w.heap.size, 4, none⟩ = some Vb ∧ w'.cell? ⟨w.heap.size, 5, none⟩ = some Vc ∧ w'.cell? ⟨w.heap.size, 6, none⟩ = some Vj ∧ w'.cell? ⟨w.heap.size, 7, none⟩ = some Vf ∧ w'.cell? ⟨w.heap.size, 8, none⟩ = some Va ∧ w'.cell? ⟨w.heap.size, 9, none⟩ = some Vs ∧ w'.cell? ⟨w.heap.size, 10, none⟩ = some Vt)
      (first | exact rbox_of (HALL.out _ HX.out.drew).1 | exact rbox_of (HALL.out _ HXA.out).1 | exact rbox_of (HALL.out _ HXB.out).1 | go_keep)
      (first
        | (go_at_call 61; refine (asker_any _ _ _ _).mono ?_; rintro e w5 ⟨rfl, rfl⟩)
        | (go_at_call 62; refine (HNX.out _ _ _ (HALL.out _ HXA.out).2.1 HCA.out HQA.out HTA.out HF.out).mono ?_; rintro e w6 ⟨rfl, hb⟩; have HXB := Lib.hid (bt HXA.out (Nat.le_refl _) hb); clear hb))
    go_wp2
    go_ret2
    exact ⟨(HALL.out _ HXB.out).2.2.2.2, _, rfl, fun h => absurd rfl h, fun _ => rfl⟩
  · obtain ⟨r, hr⟩ : ∃ r, fitE C st row = r := ⟨_, rfl⟩
    rw [hr] at HVAL h0
    rw [hr]
    have hq : (r != 0) = true := by simpa using h0
    have H0 := Lib.hid h0
    clear h0 hr HNX
    go_enter Try.func26, Try.ntmps26
    go_wp2_with (go_at_call 23; refine (HVAL.out _ (HALL.out _ HX.out).2.1 (HALL.out _ HX.out).2.2.1 (HALL.out _ HX.out).2.2.2.1).mono ?_; rintro e w1 ⟨hb, v1, rfl, hno, _⟩; obtain rfl := hno H0.out; clear hno; have HXN := Lib.hid (bt HX.out (Nat.le_refl _) hb); clear HX hb c0 c1 c2 c3 c4 c5 c6 c7 c8 c9 c10; have HX := HXN; clear HXN; obtain ⟨c0, c1, c2, c3, c4, c5, c6, c7, c8, c9, c10⟩ := rbox_of (HALL.out _ HX.out).1)
    go_ret2
    exact ⟨(HALL.out _ HX.out).2.2.2.2, _, rfl, fun _ => rfl, fun h => absurd h H0.out⟩
end Go.Proofs.Ytbeaicmjohlboab

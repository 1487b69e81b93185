/- Whether two circuits are the same: the contract of the program's Same. -/
import Derived.Test.YtfcjdfjobneeeaaSameD
import Derived.Test.YtfcjdfjobneeeaaEqF
namespace Go.Proofs.Ytfcjdfjobneeeaa
open Go.RowKit

set_option maxHeartbeats 8000000 in
set_option maxRecDepth 100000 in
theorem Same_any (w : World) (V U : CV) (A B : Circ) (h : A.In w V) (h' : B.In w U) :
    Calls Try.prog 25 #[V.val A.max, U.val B.max] w (SameAns A B w) := by
  have HB0 := Lib.hid (((Below.refl w.heap.size w).alloc (Nat.le_refl _) (.cells (V.cells A.max) 29)).alloc (by simp) (.cells (U.cells B.max) 29))
  have HX0 := Lib.hid (Below.refl ((w.alloc (.cells (V.cells A.max) 29)).alloc (.cells (U.cells B.max) 29)).heap.size ((w.alloc (.cells (V.cells A.max) 29)).alloc (.cells (U.cells B.max) 29)))
  have hA := h.below HB0.out
  have hB := h'.below HB0.out
  have HEND := Lib.hid (fun (wx : World) (hx : Below ((w.alloc (.cells (V.cells A.max) 29)).alloc (.cells (U.cells B.max) 29)).heap.size ((w.alloc (.cells (V.cells A.max) 29)).alloc (.cells (U.cells B.max) 29)) wx) => HB0.out.trans (hx.mono (by simp; omega)))
  clear h h' HB0
  obtain ⟨Vi, Vl, Vo, Vb, Vc, Vj, Vf, Va, Vs, Vt⟩ := V
  obtain ⟨Ui, Ul, Uo, Ub, Uc, Uj, Uf, Ua, Us, Ut⟩ := U
  have hsi := fun (wx : World) hx => EqualI_any wx Vi Ui A.inputs B.inputs (hA.i.below hx) (hB.i.below hx)
  have HSi := Lib.hid hsi
  have hsl := fun (wx : World) hx => EqualL_any wx Vl Ul A.latches B.latches (hA.l.below hx) (hB.l.below hx)
  have HSl := Lib.hid hsl
  have hso := fun (wx : World) hx => EqualI_any wx Vo Uo A.outputs B.outputs (hA.o.below hx) (hB.o.below hx)
  have HSo := Lib.hid hso
  have hsb := fun (wx : World) hx => EqualI_any wx Vb Ub A.bads B.bads (hA.b.below hx) (hB.b.below hx)
  have HSb := Lib.hid hsb
  have hsc := fun (wx : World) hx => EqualI_any wx Vc Uc A.constraints B.constraints (hA.c.below hx) (hB.c.below hx)
  have HSc := Lib.hid hsc
  have hsj := fun (wx : World) hx => EqualFunc_any wx Vj Uj A.justice B.justice (hA.j.below hx) (hB.j.below hx)
  have HSj := Lib.hid hsj
  have hsf := fun (wx : World) hx => EqualI_any wx Vf Uf A.fairness B.fairness (hA.f.below hx) (hB.f.below hx)
  have HSf := Lib.hid hsf
  have hsa := fun (wx : World) hx => EqualA_any wx Va Ua A.ands B.ands (hA.a.below hx) (hB.a.below hx)
  have HSa := Lib.hid hsa
  have hss := fun (wx : World) hx => EqualS_any wx Vs Us A.symbols B.symbols (hA.s.below hx) (hB.s.below hx)
  have HSs := Lib.hid hss
  have hst := fun (wx : World) hx => EqualB_any wx Vt Ut A.comments B.comments (hA.t.below hx) (hB.t.below hx)
  have HSt := Lib.hid hst
  clear hA hB hsi hsl hso hsb hsc hsj hsf hsa hss hst
  have HEQ : Hid (A = B ↔ (A.max = B.max ∧ A.inputs = B.inputs ∧ A.latches = B.latches ∧ A.outputs = B.outputs ∧ A.bads = B.bads) ∧ (A.constraints = B.constraints ∧ A.justice = B.justice ∧ A.fairness = B.fairness ∧ A.ands = B.ands) ∧ A.symbols = B.symbols ∧ A.comments = B.comments) := Lib.hid (by
    cases A; cases B; simp only [Circ.mk.injEq]; constructor <;> (intro h; simp only [h, and_self])) 
  generalize hqi : decide (A.inputs = B.inputs) = qi at *
  have HQi : Hid (qi = true ↔ A.inputs = B.inputs) := Lib.hid (by rw [← hqi]; simp)
  clear hqi
  generalize hql : decide (A.latches = B.latches) = ql at *
  have HQl : Hid (ql = true ↔ A.latches = B.latches) := Lib.hid (by rw [← hql]; simp)
  clear hql
  generalize hqo : decide (A.outputs = B.outputs) = qo at *
  have HQo : Hid (qo = true ↔ A.outputs = B.outputs) := Lib.hid (by rw [← hqo]; simp)
  clear hqo
  generalize hqb : decide (A.bads = B.bads) = qb at *
  have HQb : Hid (qb = true ↔ A.bads = B.bads) := Lib.hid (by rw [← hqb]; simp)
  clear hqb
  generalize hqc : decide (A.constraints = B.constraints) = qc at *
  have HQc : Hid (qc = true ↔ A.constraints = B.constraints) := Lib.hid (by rw [← hqc]; simp)
  clear hqc
  generalize hqj : decide (A.justice = B.justice) = qj at *
  have HQj : Hid (qj = true ↔ A.justice = B.justice) := Lib.hid (by rw [← hqj]; simp)
  clear hqj
  generalize hqf : decide (A.fairness = B.fairness) = qf at *
  have HQf : Hid (qf = true ↔ A.fairness = B.fairness) := Lib.hid (by rw [← hqf]; simp)
  clear hqf
  generalize hqa : decide (A.ands = B.ands) = qa at *
  have HQa : Hid (qa = true ↔ A.ands = B.ands) := Lib.hid (by rw [← hqa]; simp)
  clear hqa
  generalize hqs : decide (A.symbols = B.symbols) = qs at *
  have HQs : Hid (qs = true ↔ A.symbols = B.symbols) := Lib.hid (by rw [← hqs]; simp)
  clear hqs
  generalize hqt : decide (A.comments = B.comments) = qt at *
  have HQt : Hid (qt = true ↔ A.comments = B.comments) := Lib.hid (by rw [← hqt]; simp)
  clear hqt
  obtain ⟨c0, c1, c2, c3, c4, c5, c6, c7, c8, c9, c10, c11, c12, c13, c14, c15, c16, c17, c18, c19, c20, c21⟩ := two_boxes HX0.out
  by_cases hmm : A.max = B.max
  · have hq1 : (A.max == B.max) = true := by simpa using hmm
    have HMM := Lib.hid hmm
    clear hmm
    go_enter Try.func25, Try.ntmps25
    go_wp2_with fail
    refine (HSi.out _ HX0.out).mono ?_
    rintro e w1 ⟨rfl, hb⟩
    have HX1 := Lib.hid (bt HX0.out (Nat.le_refl _) hb)
    clear c0 c1 c2 c3 c4 c5 c6 c7 c8 c9 c10 c11 c12 c13 c14 c15 c16 c17 c18 c19 c20 c21 hb
    obtain ⟨c0, c1, c2, c3, c4, c5, c6, c7, c8, c9, c10, c11, c12, c13, c14, c15, c16, c17, c18, c19, c20, c21⟩ := two_boxes HX1.out
    cases qi
    · have hn : ¬ A.inputs = B.inputs := fun e => by have := HQi.out.2 e; cases this
      have HNX := Lib.hid hn
      clear hn
      go_wp2_with fail
      go_ret
      exact same_ans false rfl (by rw [HEQ.out]; simp [HNX.out]) (HEND.out _ HX1.out)
    · go_wp2_with fail
      refine (HSl.out _ HX1.out).mono ?_
      rintro e w2 ⟨rfl, hb⟩
      have HX2 := Lib.hid (bt HX1.out (Nat.le_refl _) hb)
      clear c0 c1 c2 c3 c4 c5 c6 c7 c8 c9 c10 c11 c12 c13 c14 c15 c16 c17 c18 c19 c20 c21 hb
      obtain ⟨c0, c1, c2, c3, c4, c5, c6, c7, c8, c9, c10, c11, c12, c13, c14, c15, c16, c17, c18, c19, c20, c21⟩ := two_boxes HX2.out
      cases ql
      · have hn : ¬ A.latches = B.latches := fun e => by have := HQl.out.2 e; cases this
        have HNX := Lib.hid hn
        clear hn
        go_wp2_with fail
        go_ret
        exact same_ans false rfl (by rw [HEQ.out]; simp [HNX.out]) (HEND.out _ HX2.out)
      · go_wp2_with fail
        refine (HSo.out _ HX2.out).mono ?_
        rintro e w3 ⟨rfl, hb⟩
        have HX3 := Lib.hid (bt HX2.out (Nat.le_refl _) hb)
        clear c0 c1 c2 c3 c4 c5 c6 c7 c8 c9 c10 c11 c12 c13 c14 c15 c16 c17 c18 c19 c20 c21 hb
        obtain ⟨c0, c1, c2, c3, c4, c5, c6, c7, c8, c9, c10, c11, c12, c13, c14, c15, c16, c17, c18, c19, c20, c21⟩ := two_boxes HX3.out
        cases qo
        · have hn : ¬ A.outputs = B.outputs := fun e => by have := HQo.out.2 e; cases this
          have HNX := Lib.hid hn
          clear hn
          go_wp2_with fail
          go_ret
          exact same_ans false rfl (by rw [HEQ.out]; simp [HNX.out]) (HEND.out _ HX3.out)
        · go_wp2_with fail
          refine (HSb.out _ HX3.out).mono ?_
          rintro e w4 ⟨rfl, hb⟩
          have HX4 := Lib.hid (bt HX3.out (Nat.le_refl _) hb)
          clear c0 c1 c2 c3 c4 c5 c6 c7 c8 c9 c10 c11 c12 c13 c14 c15 c16 c17 c18 c19 c20 c21 hb
          obtain ⟨c0, c1, c2, c3, c4, c5, c6, c7, c8, c9, c10, c11, c12, c13, c14, c15, c16, c17, c18, c19, c20, c21⟩ := two_boxes HX4.out
          cases qb
          · have hn : ¬ A.bads = B.bads := fun e => by have := HQb.out.2 e; cases this
            have HNX := Lib.hid hn
            clear hn
            go_wp2_with fail
            go_ret
            exact same_ans false rfl (by rw [HEQ.out]; simp [HNX.out]) (HEND.out _ HX4.out)
          · go_wp2_with fail
            refine (HSc.out _ HX4.out).mono ?_
            rintro e w5 ⟨rfl, hb⟩
            have HX5 := Lib.hid (bt HX4.out (Nat.le_refl _) hb)
            clear c0 c1 c2 c3 c4 c5 c6 c7 c8 c9 c10 c11 c12 c13 c14 c15 c16 c17 c18 c19 c20 c21 hb
            obtain ⟨c0, c1, c2, c3, c4, c5, c6, c7, c8, c9, c10, c11, c12, c13, c14, c15, c16, c17, c18, c19, c20, c21⟩ := two_boxes HX5.out
            cases qc
            · have hn : ¬ A.constraints = B.constraints := fun e => by have := HQc.out.2 e; cases this
              have HNX := Lib.hid hn
              clear hn
              go_wp2_with fail
              go_ret
              exact same_ans false rfl (by rw [HEQ.out]; simp [HNX.out]) (HEND.out _ HX5.out)
            · go_wp2_with fail
              refine (HSj.out _ HX5.out).mono ?_
              rintro e w6 ⟨rfl, hb⟩
              have HX6 := Lib.hid (bt HX5.out (Nat.le_refl _) hb)
              clear c0 c1 c2 c3 c4 c5 c6 c7 c8 c9 c10 c11 c12 c13 c14 c15 c16 c17 c18 c19 c20 c21 hb
              obtain ⟨c0, c1, c2, c3, c4, c5, c6, c7, c8, c9, c10, c11, c12, c13, c14, c15, c16, c17, c18, c19, c20, c21⟩ := two_boxes HX6.out
              cases qj
              · have hn : ¬ A.justice = B.justice := fun e => by have := HQj.out.2 e; cases this
                have HNX := Lib.hid hn
                clear hn
                go_wp2_with fail
                go_ret
                exact same_ans false rfl (by rw [HEQ.out]; simp [HNX.out]) (HEND.out _ HX6.out)
              · go_wp2_with fail
                refine (HSf.out _ HX6.out).mono ?_
                rintro e w7 ⟨rfl, hb⟩
                have HX7 := Lib.hid (bt HX6.out (Nat.le_refl _) hb)
                clear c0 c1 c2 c3 c4 c5 c6 c7 c8 c9 c10 c11 c12 c13 c14 c15 c16 c17 c18 c19 c20 c21 hb
                obtain ⟨c0, c1, c2, c3, c4, c5, c6, c7, c8, c9, c10, c11, c12, c13, c14, c15, c16, c17, c18, c19, c20, c21⟩ := two_boxes HX7.out
                cases qf
                · have hn : ¬ A.fairness = B.fairness := fun e => by have := HQf.out.2 e; cases this
                  have HNX := Lib.hid hn
                  clear hn
                  go_wp2_with fail
                  go_ret
                  exact same_ans false rfl (by rw [HEQ.out]; simp [HNX.out]) (HEND.out _ HX7.out)
                · go_wp2_with fail
                  refine (HSa.out _ HX7.out).mono ?_
                  rintro e w8 ⟨rfl, hb⟩
                  have HX8 := Lib.hid (bt HX7.out (Nat.le_refl _) hb)
                  clear c0 c1 c2 c3 c4 c5 c6 c7 c8 c9 c10 c11 c12 c13 c14 c15 c16 c17 c18 c19 c20 c21 hb
                  obtain ⟨c0, c1, c2, c3, c4, c5, c6, c7, c8, c9, c10, c11, c12, c13, c14, c15, c16, c17, c18, c19, c20, c21⟩ := two_boxes HX8.out
                  cases qa
                  · have hn : ¬ A.ands = B.ands := fun e => by have := HQa.out.2 e; cases this
                    have HNX := Lib.hid hn
                    clear hn
                    go_wp2_with fail
                    go_ret
                    exact same_ans false rfl (by rw [HEQ.out]; simp [HNX.out]) (HEND.out _ HX8.out)
                  · go_wp2_with fail
                    refine (HSs.out _ HX8.out).mono ?_
                    rintro e w9 ⟨rfl, hb⟩
                    have HX9 := Lib.hid (bt HX8.out (Nat.le_refl _) hb)
                    clear c0 c1 c2 c3 c4 c5 c6 c7 c8 c9 c10 c11 c12 c13 c14 c15 c16 c17 c18 c19 c20 c21 hb
                    obtain ⟨c0, c1, c2, c3, c4, c5, c6, c7, c8, c9, c10, c11, c12, c13, c14, c15, c16, c17, c18, c19, c20, c21⟩ := two_boxes HX9.out
                    cases qs
                    · have hn : ¬ A.symbols = B.symbols := fun e => by have := HQs.out.2 e; cases this
                      have HNX := Lib.hid hn
                      clear hn
                      go_wp2_with fail
                      go_ret
                      exact same_ans false rfl (by rw [HEQ.out]; simp [HNX.out]) (HEND.out _ HX9.out)
                    · go_wp2_with fail
                      refine (HSt.out _ HX9.out).mono ?_
                      rintro e w10 ⟨rfl, hb⟩
                      have HX10 := Lib.hid (bt HX9.out (Nat.le_refl _) hb)
                      clear c0 c1 c2 c3 c4 c5 c6 c7 c8 c9 c10 c11 c12 c13 c14 c15 c16 c17 c18 c19 c20 c21 hb
                      obtain ⟨c0, c1, c2, c3, c4, c5, c6, c7, c8, c9, c10, c11, c12, c13, c14, c15, c16, c17, c18, c19, c20, c21⟩ := two_boxes HX10.out
                      cases qt
                      · have hn : ¬ A.comments = B.comments := fun e => by have := HQt.out.2 e; cases this
                        have HNX := Lib.hid hn
                        clear hn
                        go_wp2_with fail
                        go_ret
                        exact same_ans false rfl (by rw [HEQ.out]; simp [HNX.out]) (HEND.out _ HX10.out)
                      · go_wp2_with fail
                        go_ret
                        exact same_ans true rfl (by rw [HEQ.out]; simp [HMM.out, HQi.out.1 (by first | rfl | trivial), HQl.out.1 (by first | rfl | trivial), HQo.out.1 (by first | rfl | trivial), HQb.out.1 (by first | rfl | trivial), HQc.out.1 (by first | rfl | trivial), HQj.out.1 (by first | rfl | trivial), HQf.out.1 (by first | rfl | trivial), HQa.out.1 (by first | rfl | trivial), HQs.out.1 (by first | rfl | trivial), HQt.out.1 (by first | rfl | trivial)]) (HEND.out _ HX10.out)
  · have hq1 : (A.max == B.max) = false := by simpa using hmm
    have HMM := Lib.hid hmm
    clear hmm
    go_enter Try.func25, Try.ntmps25
    go_wp2_with fail
    go_ret
    exact same_ans false rfl (by rw [HEQ.out]; simp [HMM.out]) (HEND.out _ HX0.out)
end Go.Proofs.Ytfcjdfjobneeeaa

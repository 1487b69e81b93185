/- Whether two circuits are the same: the contract of the statements' helper. -/
import Derived.Test.YtdodhbfplglbkaaSame3
import Derived.Test.YtdodhbfplglbkaaSizes
import Derived.Deep.DeepCutAuto
import Derived.Deep.RegionWith
namespace Go.Proofs.Ytdodhbfplglbkaa
open Go.RowKit

set_option maxHeartbeats 2000000 in
set_option maxRecDepth 100000 in
theorem SameLists_any (w : World) (v u : Value) (xs ys : List (List Int)) (h : Lists w v xs) (h' : Lists w u ys) : Calls Try.prog 107 #[v, u] w fun e w' => e = .returned (.bool (decide (xs = ys))) ∧ Below w.heap.size w w' := by
  obtain ⟨A, c, rfl, hlen, hp⟩ := h.at_
  obtain ⟨A', c', rfl, hlen', hq⟩ := h'.at_
  unfold maxLen at hlen hlen'
  generalize hr : decide (xs = ys) = r
  have HR := Lib.hid hr
  have HP := Lib.hid hp
  have HQ := Lib.hid hq
  clear hr hp hq h h'
  by_cases hne : xs.length = ys.length
  · rw [← hne]
    have HM := Lib.hid hne
    clear hne hlen'
    generalize hn : xs.length = n at *
    have HN := Lib.hid hn
    clear hn
    go_enter Try.func107, Try.ntmps107
    go_wp2
    go_loopw [5] (fun i wr => ∃ k : Nat, k ≤ n ∧ i = .int .i64 k ∧ xs.take k = ys.take k ∧ Below w.heap.size w wr) (fun i _ => n - (intOf i).toNat)
    case atStart => exact ⟨0, Nat.zero_le _, rfl, by simp, Below.refl _ _⟩
    case round =>
      obtain ⟨k, hk, rfl, hall, hbw⟩ := hrel
      have HA := Lib.hid hall
      have HBW := Lib.hid hbw
      clear hall hbw
      by_cases hlt : k < n
      · have hx := List.getElem?_eq_getElem (l := xs) (i := k) (by rw [HN.out]; exact hlt)
        have hy := List.getElem?_eq_getElem (l := ys) (i := k) (by rw [← HM.out]; exact hlt)
        generalize xs[k]'(by rw [HN.out]; exact hlt) = x at hx
        generalize ys[k]'(by rw [← HM.out]; exact hlt) = y at hy
        obtain ⟨b, off, u1, rfl, hb, hcell, hrow⟩ := HP.out k x hx
        obtain ⟨b', off', u2, rfl, hb', hcell', hrow'⟩ := HQ.out k y hy
        have HX := Lib.hid hx
        have HY := Lib.hid hy
        have HC1 := Lib.hid hcell
        have HC2 := Lib.hid hcell'
        have HR1 := Lib.hid hrow
        have HR2 := Lib.hid hrow'
        clear hx hy hcell hcell' hrow hrow'
        cases he : decide (x = y)
        · have hr : r = false := by
            rw [← HR.out, decide_eq_false_iff_not]
            intro e
            subst e
            have e2 := HX.out.symm.trans HY.out
            rw [Option.some.injEq] at e2
            rw [decide_eq_true e2] at he
            cases he
          subst hr
          have HE := Lib.hid he
          clear he HX HY
          go_wp2
          refine wp_region_quiet (C := fun w' => Below w.heap.size w w') (by kernel_rfl) (by kernel_rfl) (below_drewN HBW.out 1) ?_
          simp only
          repeat
            first
              | go_big_quiet_skip
              | (refine wpQuiet_step (fun K hK => ?_)
                 rw [if_pos (by rfl)]
                 unfold Oper.quiet
                 apply Exists.intro
                 refine And.intro (fun wx hWx => ?_) (hK _ ?_)
                 · first
                     | (go_simp; exact rfl)
                     | (have q1 := (Below.cell hWx (p := ⟨b, off + k, none⟩) hb).trans HC1.out; go_simp; exact rfl)
                     | (have q2 := (Below.cell hWx (p := ⟨b', off' + k, none⟩) hb').trans HC2.out; go_simp; exact rfl)
                     | (go_simp; refine (SameInts_any wx u1 u2 x y (HR1.out.below hWx) (HR2.out.below hWx)).mono ?_; rw [HE.out]; rintro e w' ⟨rfl, hb2⟩; exact ⟨rfl, bt hWx (Nat.le_refl _) hb2⟩)
                 clear hK K
                 try simp only [Act.put, List.setIfInBounds_toArray, List.set_cons_zero, List.set_cons_succ])
          refine wpQuiet_nil ?_
          intro w5 hW5
          have HW5 := Lib.hid hW5
          clear hW5
          go_wp2
          go_ret
          exact ⟨rfl, HW5.out⟩
        · have HE := Lib.hid he
          have hxy : x = y := by simpa using he
          have HXY := Lib.hid hxy
          clear he hxy
          go_wp2
          refine wp_region_quiet (C := fun w' => Below w.heap.size w w') (by kernel_rfl) (by kernel_rfl) (below_drewN HBW.out 1) ?_
          simp only
          repeat
            first
              | go_big_quiet_skip
              | (refine wpQuiet_step (fun K hK => ?_)
                 rw [if_pos (by rfl)]
                 unfold Oper.quiet
                 apply Exists.intro
                 refine And.intro (fun wx hWx => ?_) (hK _ ?_)
                 · first
                     | (go_simp; exact rfl)
                     | (have q1 := (Below.cell hWx (p := ⟨b, off + k, none⟩) hb).trans HC1.out; go_simp; exact rfl)
                     | (have q2 := (Below.cell hWx (p := ⟨b', off' + k, none⟩) hb').trans HC2.out; go_simp; exact rfl)
                     | (go_simp; refine (SameInts_any wx u1 u2 x y (HR1.out.below hWx) (HR2.out.below hWx)).mono ?_; rw [HE.out]; rintro e w' ⟨rfl, hb2⟩; exact ⟨rfl, bt hWx (Nat.le_refl _) hb2⟩)
                 clear hK K
                 try simp only [Act.put, List.setIfInBounds_toArray, List.set_cons_zero, List.set_cons_succ])
          refine wpQuiet_nil ?_
          intro w5 hW5
          have HW5 := Lib.hid hW5
          clear hW5
          go_wp2
          go_roundw
          case rel => exact ⟨k + 1, by omega, by go_num, take_eq_succ' HX.out (by rw [HXY.out]; exact HY.out) HA.out, HW5.out⟩
          case measure => simp [intOf]; omega
      · have : k = n := by omega
        subst this
        go_wp2
        go_ret
        refine ⟨ret_bool ?_, HBW.out⟩
        rw [← HR.out, eq_comm, decide_eq_true_iff]
        exact take_all HN.out (HM.out.symm) HA.out
  · have hr : r = false := by
      rw [← HR.out, decide_eq_false_iff_not]
      intro e; exact hne (by rw [e])
    subst hr
    have hd : ((xs.length : Int) == (ys.length : Int)) = false := by simpa using fun e => hne (by exact_mod_cast e)
    have hd2 : ((xs.length : Int) != (ys.length : Int)) = true := by simpa using fun e => hne (by exact_mod_cast e)
    have HR := Lib.hid hne
    clear hne
    go_enter Try.func107, Try.ntmps107
    go_wp2
    go_ret
    exact ⟨rfl, Below.refl _ _⟩
end Go.Proofs.Ytdodhbfplglbkaa

namespace Go.Proofs.Ytdodhbfplglbkaa
open Go.RowKit

theorem two_boxes {w w' : World} {m m' : Int} {Vi Vl Vo Vb Vc Vj Vf Va Vs Vt Ui Ul Uo Ub Uc Uj Uf Ua Us Ut : Value} (hb : Below ((w.alloc (.cells #[.int .i64 m, Vi, Vl, Vo, Vb, Vc, Vj, Vf, Va, Vs, Vt] 29)).alloc (.cells #[.int .i64 m', Ui, Ul, Uo, Ub, Uc, Uj, Uf, Ua, Us, Ut] 29)).heap.size ((w.alloc (.cells #[.int .i64 m, Vi, Vl, Vo, Vb, Vc, Vj, Vf, Va, Vs, Vt] 29)).alloc (.cells #[.int .i64 m', Ui, Ul, Uo, Ub, Uc, Uj, Uf, Ua, Us, Ut] 29)) w') :
    w'.cell? ⟨w.heap.size, 0, none⟩ = some (.int .i64 m) ∧ w'.cell? ⟨w.heap.size, 1, none⟩ = some (Vi) ∧ w'.cell? ⟨w.heap.size, 2, none⟩ = some (Vl) ∧ w'.cell? ⟨w.heap.size, 3, none⟩ = some (Vo) ∧ w'.cell? ⟨w.heap.size, 4, none⟩ = some (Vb) ∧ w'.cell? ⟨w.heap.size, 5, none⟩ = some (Vc) ∧ w'.cell? ⟨w.heap.size, 6, none⟩ = some (Vj) ∧ w'.cell? ⟨w.heap.size, 7, none⟩ = some (Vf) ∧ w'.cell? ⟨w.heap.size, 8, none⟩ = some (Va) ∧ w'.cell? ⟨w.heap.size, 9, none⟩ = some (Vs) ∧ w'.cell? ⟨w.heap.size, 10, none⟩ = some (Vt) ∧ w'.cell? ⟨w.heap.size + 1, 0, none⟩ = some (.int .i64 m') ∧ w'.cell? ⟨w.heap.size + 1, 1, none⟩ = some (Ui) ∧ w'.cell? ⟨w.heap.size + 1, 2, none⟩ = some (Ul) ∧ w'.cell? ⟨w.heap.size + 1, 3, none⟩ = some (Uo) ∧ w'.cell? ⟨w.heap.size + 1, 4, none⟩ = some (Ub) ∧ w'.cell? ⟨w.heap.size + 1, 5, none⟩ = some (Uc) ∧ w'.cell? ⟨w.heap.size + 1, 6, none⟩ = some (Uj) ∧ w'.cell? ⟨w.heap.size + 1, 7, none⟩ = some (Uf) ∧ w'.cell? ⟨w.heap.size + 1, 8, none⟩ = some (Ua) ∧ w'.cell? ⟨w.heap.size + 1, 9, none⟩ = some (Us) ∧ w'.cell? ⟨w.heap.size + 1, 10, none⟩ = some (Ut) := by
  have h := ((Blk.new w 29 #[.int .i64 m, Vi, Vl, Vo, Vb, Vc, Vj, Vf, Va, Vs, Vt]).alloc (.cells #[.int .i64 m', Ui, Ul, Uo, Ub, Uc, Uj, Uf, Ua, Us, Ut] 29)).below hb (by simp; omega)
  have g := (Blk.new (w.alloc (.cells #[.int .i64 m, Vi, Vl, Vo, Vb, Vc, Vj, Vf, Va, Vs, Vt] 29)) 29 #[.int .i64 m', Ui, Ul, Uo, Ub, Uc, Uj, Uf, Ua, Us, Ut]).below hb (by simp)
  rw [show (w.alloc (.cells #[.int .i64 m, Vi, Vl, Vo, Vb, Vc, Vj, Vf, Va, Vs, Vt] 29)).heap.size = w.heap.size + 1 by simp] at g
  exact ⟨h.cell 0, h.cell 1, h.cell 2, h.cell 3, h.cell 4, h.cell 5, h.cell 6, h.cell 7, h.cell 8, h.cell 9, h.cell 10, g.cell 0, g.cell 1, g.cell 2, g.cell 3, g.cell 4, g.cell 5, g.cell 6, g.cell 7, g.cell 8, g.cell 9, g.cell 10⟩

/-- It is told whether the two are the same; nothing that was there has turned. -/
def SameAns (A B : Circ) (w : World) (e : Ending) (w' : World) : Prop := ∃ r, e = .returned (.bool r) ∧ (r = true ↔ A = B) ∧ Below w.heap.size w w'
theorem same_ans {A B : Circ} {w w' : World} {e : Ending} (r : Bool) (h1 : e = .returned (.bool r)) (h2 : r = true ↔ A = B) (h3 : Below w.heap.size w w') : SameAns A B w e w' := ⟨r, h1, h2, h3⟩

set_option maxHeartbeats 8000000 in
set_option maxRecDepth 100000 in
theorem SameCircuit_any (w : World) (V U : CV) (A B : Circ) (h : A.In w V) (h' : B.In w U) :
    Calls Try.prog 55 #[V.val A.max, U.val B.max] w (SameAns A B w) := by
  have HB0 := Lib.hid (((Below.refl w.heap.size w).alloc (Nat.le_refl _) (.cells (V.cells A.max) 29)).alloc (by simp) (.cells (U.cells B.max) 29))
  have HX0 := Lib.hid (Below.refl ((w.alloc (.cells (V.cells A.max) 29)).alloc (.cells (U.cells B.max) 29)).heap.size ((w.alloc (.cells (V.cells A.max) 29)).alloc (.cells (U.cells B.max) 29)))
  have hA := h.below HB0.out
  have hB := h'.below HB0.out
  have HEND := Lib.hid (fun (wx : World) (hx : Below ((w.alloc (.cells (V.cells A.max) 29)).alloc (.cells (U.cells B.max) 29)).heap.size ((w.alloc (.cells (V.cells A.max) 29)).alloc (.cells (U.cells B.max) 29)) wx) => HB0.out.trans (hx.mono (by simp; omega)))
  clear h h' HB0
  obtain ⟨Vi, Vl, Vo, Vb, Vc, Vj, Vf, Va, Vs, Vt⟩ := V
  obtain ⟨Ui, Ul, Uo, Ub, Uc, Uj, Uf, Ua, Us, Ut⟩ := U
  have hsi := fun (wx : World) hx => SameInts_any wx Vi Ui A.inputs B.inputs (hA.i.below hx) (hB.i.below hx)
  have HSi := Lib.hid hsi
  have hsl := fun (wx : World) hx => sameLatches_any wx Vl Ul A.latches B.latches (hA.l.below hx) (hB.l.below hx)
  have HSl := Lib.hid hsl
  have hso := fun (wx : World) hx => SameInts_any wx Vo Uo A.outputs B.outputs (hA.o.below hx) (hB.o.below hx)
  have HSo := Lib.hid hso
  have hsb := fun (wx : World) hx => SameInts_any wx Vb Ub A.bads B.bads (hA.b.below hx) (hB.b.below hx)
  have HSb := Lib.hid hsb
  have hsc := fun (wx : World) hx => SameInts_any wx Vc Uc A.constraints B.constraints (hA.c.below hx) (hB.c.below hx)
  have HSc := Lib.hid hsc
  have hsj := fun (wx : World) hx => SameLists_any wx Vj Uj A.justice B.justice (hA.j.below hx) (hB.j.below hx)
  have HSj := Lib.hid hsj
  have hsf := fun (wx : World) hx => SameInts_any wx Vf Uf A.fairness B.fairness (hA.f.below hx) (hB.f.below hx)
  have HSf := Lib.hid hsf
  have hsa := fun (wx : World) hx => sameAnds_any wx Va Ua A.ands B.ands (hA.a.below hx) (hB.a.below hx)
  have HSa := Lib.hid hsa
  have hss := fun (wx : World) hx => sameSymbols_any wx Vs Us A.symbols B.symbols (hA.s.below hx) (hB.s.below hx)
  have HSs := Lib.hid hss
  have hst := fun (wx : World) hx => SameTexts_any wx Vt Ut A.comments B.comments (hA.t.below hx) (hB.t.below hx)
  have HSt := Lib.hid hst
  clear hA hB hsi hsl hso hsb hsc hsj hsf hsa hss hst
  have HEQ : Hid (A = B ↔ (A.max = B.max ∧ A.inputs = B.inputs ∧ A.latches = B.latches ∧ A.outputs = B.outputs ∧ A.bads = B.bads) ∧ (A.constraints = B.constraints ∧ A.justice = B.justice ∧ A.fairness = B.fairness ∧ A.ands = B.ands) ∧ A.symbols = B.symbols ∧ A.comments = B.comments) := Lib.hid (by
    cases A; cases B; simp only [Circ.mk.injEq]; constructor <;> (intro h; simp only [h, and_self])) 
  generalize hqi : decide (A.inputs = B.inputs) = qi at *
  have HQi : Hid (qi = true ↔ A.inputs = B.inputs) := Lib.hid (by rw [← hqi]; simp)
  clear hqi
  generalize hql : decide (A.latches = B.latches) = ql at *
  have HQl : Hid (ql = true ↔ A.latches = B.latches) := Lib.hid (by rw [← hql]; simp)
  clear hql
  generalize hqo : decide (A.outputs = B.outputs) = qo at *
  have HQo : Hid (qo = true ↔ A.outputs = B.outputs) := Lib.hid (by rw [← hqo]; simp)
  clear hqo
  generalize hqb : decide (A.bads = B.bads) = qb at *
  have HQb : Hid (qb = true ↔ A.bads = B.bads) := Lib.hid (by rw [← hqb]; simp)
  clear hqb
  generalize hqc : decide (A.constraints = B.constraints) = qc at *
  have HQc : Hid (qc = true ↔ A.constraints = B.constraints) := Lib.hid (by rw [← hqc]; simp)
  clear hqc
  generalize hqj : decide (A.justice = B.justice) = qj at *
  have HQj : Hid (qj = true ↔ A.justice = B.justice) := Lib.hid (by rw [← hqj]; simp)
  clear hqj
  generalize hqf : decide (A.fairness = B.fairness) = qf at *
  have HQf : Hid (qf = true ↔ A.fairness = B.fairness) := Lib.hid (by rw [← hqf]; simp)
  clear hqf
  generalize hqa : decide (A.ands = B.ands) = qa at *
  have HQa : Hid (qa = true ↔ A.ands = B.ands) := Lib.hid (by rw [← hqa]; simp)
  clear hqa
  generalize hqs : decide (A.symbols = B.symbols) = qs at *
  have HQs : Hid (qs = true ↔ A.symbols = B.symbols) := Lib.hid (by rw [← hqs]; simp)
  clear hqs
  generalize hqt : decide (A.comments = B.comments) = qt at *
  have HQt : Hid (qt = true ↔ A.comments = B.comments) := Lib.hid (by rw [← hqt]; simp)
  clear hqt
  obtain ⟨c0, c1, c2, c3, c4, c5, c6, c7, c8, c9, c10, c11, c12, c13, c14, c15, c16, c17, c18, c19, c20, c21⟩ := two_boxes HX0.out
  go_enter Try.func55, Try.ntmps55
  go_upto_region 1 with (fail)
  go_cut [5] (fun s5 wx => ∃ r : Bool, s5 = .bool r ∧ (r = true ↔ A.max = B.max ∧ A.inputs = B.inputs ∧ A.latches = B.latches ∧ A.outputs = B.outputs ∧ A.bads = B.bads) ∧ Below ((w.alloc (.cells #[.int .i64 A.max, Vi, Vl, Vo, Vb, Vc, Vj, Vf, Va, Vs, Vt] 29)).alloc (.cells #[.int .i64 B.max, Ui, Ul, Uo, Ub, Uc, Uj, Uf, Ua, Us, Ut] 29)).heap.size ((w.alloc (.cells #[.int .i64 A.max, Vi, Vl, Vo, Vb, Vc, Vj, Vf, Va, Vs, Vt] 29)).alloc (.cells #[.int .i64 B.max, Ui, Ul, Uo, Ub, Uc, Uj, Uf, Ua, Us, Ut] 29)) wx)
  case first =>
    by_cases hmm : A.max = B.max
    · have hq1 : (A.max == B.max) = true := by simpa using hmm
      have HMM := Lib.hid hmm
      clear hmm
      cases qi
      · have hn : ¬ A.inputs = B.inputs := fun e => by have := HQi.out.2 e; cases this
        have HNX := Lib.hid hn
        clear hn
        go_wp2_with (first | (go_at_call_of 56 Vi; refine (HSi.out _ HX0.out).mono ?_; rintro e w1 ⟨rfl, hb⟩; have HX1 := Lib.hid (bt HX0.out (Nat.le_refl _) hb); obtain ⟨c0, c1, c2, c3, c4, c5, c6, c7, c8, c9, c10, c11, c12, c13, c14, c15, c16, c17, c18, c19, c20, c21⟩ := two_boxes HX1.out; clear hb))
        go_meet
        exact ⟨false, rfl, by simp [HNX.out], HX1.out⟩
      · cases ql
        · have hn : ¬ A.latches = B.latches := fun e => by have := HQl.out.2 e; cases this
          have HNX := Lib.hid hn
          clear hn
          go_wp2_with (first | (go_at_call_of 56 Vi; refine (HSi.out _ HX0.out).mono ?_; rintro e w1 ⟨rfl, hb⟩; have HX1 := Lib.hid (bt HX0.out (Nat.le_refl _) hb); obtain ⟨c0, c1, c2, c3, c4, c5, c6, c7, c8, c9, c10, c11, c12, c13, c14, c15, c16, c17, c18, c19, c20, c21⟩ := two_boxes HX1.out; clear hb) | (go_at_call_of 106 Vl; refine (HSl.out _ HX1.out).mono ?_; rintro e w2 ⟨rfl, hb⟩; have HX2 := Lib.hid (bt HX1.out (Nat.le_refl _) hb); obtain ⟨c0, c1, c2, c3, c4, c5, c6, c7, c8, c9, c10, c11, c12, c13, c14, c15, c16, c17, c18, c19, c20, c21⟩ := two_boxes HX2.out; clear hb))
          go_meet
          exact ⟨false, rfl, by simp [HNX.out], HX2.out⟩
        · cases qo
          · have hn : ¬ A.outputs = B.outputs := fun e => by have := HQo.out.2 e; cases this
            have HNX := Lib.hid hn
            clear hn
            go_wp2_with (first | (go_at_call_of 56 Vi; refine (HSi.out _ HX0.out).mono ?_; rintro e w1 ⟨rfl, hb⟩; have HX1 := Lib.hid (bt HX0.out (Nat.le_refl _) hb); obtain ⟨c0, c1, c2, c3, c4, c5, c6, c7, c8, c9, c10, c11, c12, c13, c14, c15, c16, c17, c18, c19, c20, c21⟩ := two_boxes HX1.out; clear hb) | (go_at_call_of 106 Vl; refine (HSl.out _ HX1.out).mono ?_; rintro e w2 ⟨rfl, hb⟩; have HX2 := Lib.hid (bt HX1.out (Nat.le_refl _) hb); obtain ⟨c0, c1, c2, c3, c4, c5, c6, c7, c8, c9, c10, c11, c12, c13, c14, c15, c16, c17, c18, c19, c20, c21⟩ := two_boxes HX2.out; clear hb) | (go_at_call_of 56 Vo; refine (HSo.out _ HX2.out).mono ?_; rintro e w3 ⟨rfl, hb⟩; have HX3 := Lib.hid (bt HX2.out (Nat.le_refl _) hb); obtain ⟨c0, c1, c2, c3, c4, c5, c6, c7, c8, c9, c10, c11, c12, c13, c14, c15, c16, c17, c18, c19, c20, c21⟩ := two_boxes HX3.out; clear hb))
            go_meet
            exact ⟨false, rfl, by simp [HNX.out], HX3.out⟩
          · cases qb
            · have hn : ¬ A.bads = B.bads := fun e => by have := HQb.out.2 e; cases this
              have HNX := Lib.hid hn
              clear hn
              go_wp2_with (first | (go_at_call_of 56 Vi; refine (HSi.out _ HX0.out).mono ?_; rintro e w1 ⟨rfl, hb⟩; have HX1 := Lib.hid (bt HX0.out (Nat.le_refl _) hb); obtain ⟨c0, c1, c2, c3, c4, c5, c6, c7, c8, c9, c10, c11, c12, c13, c14, c15, c16, c17, c18, c19, c20, c21⟩ := two_boxes HX1.out; clear hb) | (go_at_call_of 106 Vl; refine (HSl.out _ HX1.out).mono ?_; rintro e w2 ⟨rfl, hb⟩; have HX2 := Lib.hid (bt HX1.out (Nat.le_refl _) hb); obtain ⟨c0, c1, c2, c3, c4, c5, c6, c7, c8, c9, c10, c11, c12, c13, c14, c15, c16, c17, c18, c19, c20, c21⟩ := two_boxes HX2.out; clear hb) | (go_at_call_of 56 Vo; refine (HSo.out _ HX2.out).mono ?_; rintro e w3 ⟨rfl, hb⟩; have HX3 := Lib.hid (bt HX2.out (Nat.le_refl _) hb); obtain ⟨c0, c1, c2, c3, c4, c5, c6, c7, c8, c9, c10, c11, c12, c13, c14, c15, c16, c17, c18, c19, c20, c21⟩ := two_boxes HX3.out; clear hb) | (go_at_call_of 56 Vb; refine (HSb.out _ HX3.out).mono ?_; rintro e w4 ⟨rfl, hb⟩; have HX4 := Lib.hid (bt HX3.out (Nat.le_refl _) hb); obtain ⟨c0, c1, c2, c3, c4, c5, c6, c7, c8, c9, c10, c11, c12, c13, c14, c15, c16, c17, c18, c19, c20, c21⟩ := two_boxes HX4.out; clear hb))
              go_meet
              exact ⟨false, rfl, by simp [HNX.out], HX4.out⟩
            · go_wp2_with (first | (go_at_call_of 56 Vi; refine (HSi.out _ HX0.out).mono ?_; rintro e w1 ⟨rfl, hb⟩; have HX1 := Lib.hid (bt HX0.out (Nat.le_refl _) hb); obtain ⟨c0, c1, c2, c3, c4, c5, c6, c7, c8, c9, c10, c11, c12, c13, c14, c15, c16, c17, c18, c19, c20, c21⟩ := two_boxes HX1.out; clear hb) | (go_at_call_of 106 Vl; refine (HSl.out _ HX1.out).mono ?_; rintro e w2 ⟨rfl, hb⟩; have HX2 := Lib.hid (bt HX1.out (Nat.le_refl _) hb); obtain ⟨c0, c1, c2, c3, c4, c5, c6, c7, c8, c9, c10, c11, c12, c13, c14, c15, c16, c17, c18, c19, c20, c21⟩ := two_boxes HX2.out; clear hb) | (go_at_call_of 56 Vo; refine (HSo.out _ HX2.out).mono ?_; rintro e w3 ⟨rfl, hb⟩; have HX3 := Lib.hid (bt HX2.out (Nat.le_refl _) hb); obtain ⟨c0, c1, c2, c3, c4, c5, c6, c7, c8, c9, c10, c11, c12, c13, c14, c15, c16, c17, c18, c19, c20, c21⟩ := two_boxes HX3.out; clear hb) | (go_at_call_of 56 Vb; refine (HSb.out _ HX3.out).mono ?_; rintro e w4 ⟨rfl, hb⟩; have HX4 := Lib.hid (bt HX3.out (Nat.le_refl _) hb); obtain ⟨c0, c1, c2, c3, c4, c5, c6, c7, c8, c9, c10, c11, c12, c13, c14, c15, c16, c17, c18, c19, c20, c21⟩ := two_boxes HX4.out; clear hb))
              go_meet
              exact ⟨true, rfl, by simp [HMM.out, HQi.out.1 (by first | rfl | trivial), HQl.out.1 (by first | rfl | trivial), HQo.out.1 (by first | rfl | trivial), HQb.out.1 (by first | rfl | trivial)], HX4.out⟩
    · have hq1 : (A.max == B.max) = false := by simpa using hmm
      have HMM := Lib.hid hmm
      clear hmm
      go_wp2_with fail
      go_meet
      exact ⟨false, rfl, by simp [HMM.out], HX0.out⟩
  case rest =>
    obtain ⟨r1, rfl, hr1, hx5⟩ := hcut
    have HR1 := Lib.hid hr1
    have HX4 := Lib.hid hx5
    clear hr1 hx5 c0 c1 c2 c3 c4 c5 c6 c7 c8 c9 c10 c11 c12 c13 c14 c15 c16 c17 c18 c19 c20 c21
    obtain ⟨c0, c1, c2, c3, c4, c5, c6, c7, c8, c9, c10, c11, c12, c13, c14, c15, c16, c17, c18, c19, c20, c21⟩ := two_boxes HX4.out
    go_upto_region 2 with (fail)
    go_cut [6] (fun s6 wx => ∃ r : Bool, s6 = .bool r ∧ (r = true ↔ A.constraints = B.constraints ∧ A.justice = B.justice ∧ A.fairness = B.fairness ∧ A.ands = B.ands) ∧ Below ((w.alloc (.cells #[.int .i64 A.max, Vi, Vl, Vo, Vb, Vc, Vj, Vf, Va, Vs, Vt] 29)).alloc (.cells #[.int .i64 B.max, Ui, Ul, Uo, Ub, Uc, Uj, Uf, Ua, Us, Ut] 29)).heap.size ((w.alloc (.cells #[.int .i64 A.max, Vi, Vl, Vo, Vb, Vc, Vj, Vf, Va, Vs, Vt] 29)).alloc (.cells #[.int .i64 B.max, Ui, Ul, Uo, Ub, Uc, Uj, Uf, Ua, Us, Ut] 29)) wx)
    case first =>
      cases qc
      · have hn : ¬ A.constraints = B.constraints := fun e => by have := HQc.out.2 e; cases this
        have HNX := Lib.hid hn
        clear hn
        go_wp2_with (first | (go_at_call_of 56 Vc; refine (HSc.out _ HX4.out).mono ?_; rintro e w5 ⟨rfl, hb⟩; have HX5 := Lib.hid (bt HX4.out (Nat.le_refl _) hb); obtain ⟨c0, c1, c2, c3, c4, c5, c6, c7, c8, c9, c10, c11, c12, c13, c14, c15, c16, c17, c18, c19, c20, c21⟩ := two_boxes HX5.out; clear hb))
        go_meet
        exact ⟨false, rfl, by simp [HNX.out], HX5.out⟩
      · cases qj
        · have hn : ¬ A.justice = B.justice := fun e => by have := HQj.out.2 e; cases this
          have HNX := Lib.hid hn
          clear hn
          go_wp2_with (first | (go_at_call_of 56 Vc; refine (HSc.out _ HX4.out).mono ?_; rintro e w5 ⟨rfl, hb⟩; have HX5 := Lib.hid (bt HX4.out (Nat.le_refl _) hb); obtain ⟨c0, c1, c2, c3, c4, c5, c6, c7, c8, c9, c10, c11, c12, c13, c14, c15, c16, c17, c18, c19, c20, c21⟩ := two_boxes HX5.out; clear hb) | (go_at_call_of 107 Vj; refine (HSj.out _ HX5.out).mono ?_; rintro e w6 ⟨rfl, hb⟩; have HX6 := Lib.hid (bt HX5.out (Nat.le_refl _) hb); obtain ⟨c0, c1, c2, c3, c4, c5, c6, c7, c8, c9, c10, c11, c12, c13, c14, c15, c16, c17, c18, c19, c20, c21⟩ := two_boxes HX6.out; clear hb))
          go_meet
          exact ⟨false, rfl, by simp [HNX.out], HX6.out⟩
        · cases qf
          · have hn : ¬ A.fairness = B.fairness := fun e => by have := HQf.out.2 e; cases this
            have HNX := Lib.hid hn
            clear hn
            go_wp2_with (first | (go_at_call_of 56 Vc; refine (HSc.out _ HX4.out).mono ?_; rintro e w5 ⟨rfl, hb⟩; have HX5 := Lib.hid (bt HX4.out (Nat.le_refl _) hb); obtain ⟨c0, c1, c2, c3, c4, c5, c6, c7, c8, c9, c10, c11, c12, c13, c14, c15, c16, c17, c18, c19, c20, c21⟩ := two_boxes HX5.out; clear hb) | (go_at_call_of 107 Vj; refine (HSj.out _ HX5.out).mono ?_; rintro e w6 ⟨rfl, hb⟩; have HX6 := Lib.hid (bt HX5.out (Nat.le_refl _) hb); obtain ⟨c0, c1, c2, c3, c4, c5, c6, c7, c8, c9, c10, c11, c12, c13, c14, c15, c16, c17, c18, c19, c20, c21⟩ := two_boxes HX6.out; clear hb) | (go_at_call_of 56 Vf; refine (HSf.out _ HX6.out).mono ?_; rintro e w7 ⟨rfl, hb⟩; have HX7 := Lib.hid (bt HX6.out (Nat.le_refl _) hb); obtain ⟨c0, c1, c2, c3, c4, c5, c6, c7, c8, c9, c10, c11, c12, c13, c14, c15, c16, c17, c18, c19, c20, c21⟩ := two_boxes HX7.out; clear hb))
            go_meet
            exact ⟨false, rfl, by simp [HNX.out], HX7.out⟩
          · cases qa
            · have hn : ¬ A.ands = B.ands := fun e => by have := HQa.out.2 e; cases this
              have HNX := Lib.hid hn
              clear hn
              go_wp2_with (first | (go_at_call_of 56 Vc; refine (HSc.out _ HX4.out).mono ?_; rintro e w5 ⟨rfl, hb⟩; have HX5 := Lib.hid (bt HX4.out (Nat.le_refl _) hb); obtain ⟨c0, c1, c2, c3, c4, c5, c6, c7, c8, c9, c10, c11, c12, c13, c14, c15, c16, c17, c18, c19, c20, c21⟩ := two_boxes HX5.out; clear hb) | (go_at_call_of 107 Vj; refine (HSj.out _ HX5.out).mono ?_; rintro e w6 ⟨rfl, hb⟩; have HX6 := Lib.hid (bt HX5.out (Nat.le_refl _) hb); obtain ⟨c0, c1, c2, c3, c4, c5, c6, c7, c8, c9, c10, c11, c12, c13, c14, c15, c16, c17, c18, c19, c20, c21⟩ := two_boxes HX6.out; clear hb) | (go_at_call_of 56 Vf; refine (HSf.out _ HX6.out).mono ?_; rintro e w7 ⟨rfl, hb⟩; have HX7 := Lib.hid (bt HX6.out (Nat.le_refl _) hb); obtain ⟨c0, c1, c2, c3, c4, c5, c6, c7, c8, c9, c10, c11, c12, c13, c14, c15, c16, c17, c18, c19, c20, c21⟩ := two_boxes HX7.out; clear hb) | (go_at_call_of 108 Va; refine (HSa.out _ HX7.out).mono ?_; rintro e w8 ⟨rfl, hb⟩; have HX8 := Lib.hid (bt HX7.out (Nat.le_refl _) hb); obtain ⟨c0, c1, c2, c3, c4, c5, c6, c7, c8, c9, c10, c11, c12, c13, c14, c15, c16, c17, c18, c19, c20, c21⟩ := two_boxes HX8.out; clear hb))
              go_meet
              exact ⟨false, rfl, by simp [HNX.out], HX8.out⟩
            · go_wp2_with (first | (go_at_call_of 56 Vc; refine (HSc.out _ HX4.out).mono ?_; rintro e w5 ⟨rfl, hb⟩; have HX5 := Lib.hid (bt HX4.out (Nat.le_refl _) hb); obtain ⟨c0, c1, c2, c3, c4, c5, c6, c7, c8, c9, c10, c11, c12, c13, c14, c15, c16, c17, c18, c19, c20, c21⟩ := two_boxes HX5.out; clear hb) | (go_at_call_of 107 Vj; refine (HSj.out _ HX5.out).mono ?_; rintro e w6 ⟨rfl, hb⟩; have HX6 := Lib.hid (bt HX5.out (Nat.le_refl _) hb); obtain ⟨c0, c1, c2, c3, c4, c5, c6, c7, c8, c9, c10, c11, c12, c13, c14, c15, c16, c17, c18, c19, c20, c21⟩ := two_boxes HX6.out; clear hb) | (go_at_call_of 56 Vf; refine (HSf.out _ HX6.out).mono ?_; rintro e w7 ⟨rfl, hb⟩; have HX7 := Lib.hid (bt HX6.out (Nat.le_refl _) hb); obtain ⟨c0, c1, c2, c3, c4, c5, c6, c7, c8, c9, c10, c11, c12, c13, c14, c15, c16, c17, c18, c19, c20, c21⟩ := two_boxes HX7.out; clear hb) | (go_at_call_of 108 Va; refine (HSa.out _ HX7.out).mono ?_; rintro e w8 ⟨rfl, hb⟩; have HX8 := Lib.hid (bt HX7.out (Nat.le_refl _) hb); obtain ⟨c0, c1, c2, c3, c4, c5, c6, c7, c8, c9, c10, c11, c12, c13, c14, c15, c16, c17, c18, c19, c20, c21⟩ := two_boxes HX8.out; clear hb))
              go_meet
              exact ⟨true, rfl, by simp [HQc.out.1 (by first | rfl | trivial), HQj.out.1 (by first | rfl | trivial), HQf.out.1 (by first | rfl | trivial), HQa.out.1 (by first | rfl | trivial)], HX8.out⟩
    case rest =>
      obtain ⟨r2, rfl, hr2, hx9⟩ := hcut
      have HR2 := Lib.hid hr2
      have HX8 := Lib.hid hx9
      clear hr2 hx9 c0 c1 c2 c3 c4 c5 c6 c7 c8 c9 c10 c11 c12 c13 c14 c15 c16 c17 c18 c19 c20 c21
      obtain ⟨c0, c1, c2, c3, c4, c5, c6, c7, c8, c9, c10, c11, c12, c13, c14, c15, c16, c17, c18, c19, c20, c21⟩ := two_boxes HX8.out
      cases r1
      · have HN : Hid (¬ (A.max = B.max ∧ A.inputs = B.inputs ∧ A.latches = B.latches ∧ A.outputs = B.outputs ∧ A.bads = B.bads)) := Lib.hid (fun e => by have := HR1.out.2 e; cases this)
        go_wp2_with fail
        go_ret
        exact same_ans false rfl (by rw [HEQ.out]; simp [HN.out]) (HEND.out _ HX8.out)
      · cases r2
        · have HN : Hid (¬ (A.constraints = B.constraints ∧ A.justice = B.justice ∧ A.fairness = B.fairness ∧ A.ands = B.ands)) := Lib.hid (fun e => by have := HR2.out.2 e; cases this)
          go_wp2_with fail
          go_ret
          exact same_ans false rfl (by rw [HEQ.out]; simp [HN.out]) (HEND.out _ HX8.out)
        · cases qs
          · have HN : Hid (¬ A.symbols = B.symbols) := Lib.hid (fun e => by have := HQs.out.2 e; cases this)
            go_wp2_with (first | (go_at_call_of 109 Vs; refine (HSs.out _ HX8.out).mono ?_; rintro e w9 ⟨rfl, hb⟩; have HX9 := Lib.hid (bt HX8.out (Nat.le_refl _) hb); obtain ⟨c0, c1, c2, c3, c4, c5, c6, c7, c8, c9, c10, c11, c12, c13, c14, c15, c16, c17, c18, c19, c20, c21⟩ := two_boxes HX9.out; clear hb))
            go_ret
            exact same_ans false rfl (by rw [HEQ.out]; simp [HN.out]) (HEND.out _ HX9.out)
          · cases qt
            · have HN : Hid (¬ A.comments = B.comments) := Lib.hid (fun e => by have := HQt.out.2 e; cases this)
              go_wp2_with (first | (go_at_call_of 109 Vs; refine (HSs.out _ HX8.out).mono ?_; rintro e w9 ⟨rfl, hb⟩; have HX9 := Lib.hid (bt HX8.out (Nat.le_refl _) hb); obtain ⟨c0, c1, c2, c3, c4, c5, c6, c7, c8, c9, c10, c11, c12, c13, c14, c15, c16, c17, c18, c19, c20, c21⟩ := two_boxes HX9.out; clear hb) | (go_at_call_of 110 Vt; refine (HSt.out _ HX9.out).mono ?_; rintro e w10 ⟨rfl, hb⟩; have HX10 := Lib.hid (bt HX9.out (Nat.le_refl _) hb); obtain ⟨c0, c1, c2, c3, c4, c5, c6, c7, c8, c9, c10, c11, c12, c13, c14, c15, c16, c17, c18, c19, c20, c21⟩ := two_boxes HX10.out; clear hb))
              go_ret
              exact same_ans false rfl (by rw [HEQ.out]; simp [HN.out]) (HEND.out _ HX10.out)
            · go_wp2_with (first | (go_at_call_of 109 Vs; refine (HSs.out _ HX8.out).mono ?_; rintro e w9 ⟨rfl, hb⟩; have HX9 := Lib.hid (bt HX8.out (Nat.le_refl _) hb); obtain ⟨c0, c1, c2, c3, c4, c5, c6, c7, c8, c9, c10, c11, c12, c13, c14, c15, c16, c17, c18, c19, c20, c21⟩ := two_boxes HX9.out; clear hb) | (go_at_call_of 110 Vt; refine (HSt.out _ HX9.out).mono ?_; rintro e w10 ⟨rfl, hb⟩; have HX10 := Lib.hid (bt HX9.out (Nat.le_refl _) hb); obtain ⟨c0, c1, c2, c3, c4, c5, c6, c7, c8, c9, c10, c11, c12, c13, c14, c15, c16, c17, c18, c19, c20, c21⟩ := two_boxes HX10.out; clear hb))
              go_ret
              exact same_ans true rfl (by rw [HEQ.out]; simp [HR1.out.1 (by first | rfl | trivial), HR2.out.1 (by first | rfl | trivial), HQs.out.1 (by first | rfl | trivial), HQt.out.1 (by first | rfl | trivial)]) (HEND.out _ HX10.out)
end Go.Proofs.Ytdodhbfplglbkaa

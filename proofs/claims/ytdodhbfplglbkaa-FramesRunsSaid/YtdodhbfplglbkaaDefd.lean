/- The contract of checkDefined: what inputs, latches and gates define. -/
import Derived.Test.YtdodhbfplglbkaaTable
namespace Go.Proofs.Ytdodhbfplglbkaa
open Go.RowKit

theorem defAll_step {α : Type} {lit bad : α → Int} {x : α} {xs : List α} {k : Nat} {tb : List Bool} (h : xs[k]? = some x) (h0 : defE tb (lit x) = 0) (h1 : bad x = 0) : defAll lit bad (xs.drop k) k tb = defAll lit bad (xs.drop (k + 1)) (k + 1) (defT tb (lit x)) := by
  rw [drop_one h, defAll, if_pos h0, if_pos h1]
theorem defAll_stop {α : Type} {lit bad : α → Int} {x : α} {xs : List α} {k : Nat} {tb : List Bool} (h : xs[k]? = some x) (h0 : defE tb (lit x) ≠ 0) : defAll lit bad (xs.drop k) k tb = (((k : Int), defE tb (lit x)), tb) := by
  rw [drop_one h, defAll, if_neg h0]
theorem defAll_bad {α : Type} {lit bad : α → Int} {x : α} {xs : List α} {k : Nat} {tb : List Bool} (h : xs[k]? = some x) (h0 : defE tb (lit x) = 0) (h1 : bad x ≠ 0) : defAll lit bad (xs.drop k) k tb = (((k : Int), bad x), defT tb (lit x)) := by
  rw [drop_one h, defAll, if_pos h0, if_neg h1]
theorem defAll_end {α : Type} {lit bad : α → Int} {xs : List α} {k : Nat} {tb : List Bool} (h : xs.length ≤ k) : defAll lit bad (xs.drop k) k tb = ((0, 0), tb) := by rw [drop_all h]; rfl
theorem defAll_len {α : Type} {lit bad : α → Int} : ∀ (xs : List α) (k : Nat) (tb : List Bool), (defAll lit bad xs k tb).2.length = tb.length
  | [], _, _ => rfl
  | x :: r, k, tb => by
    unfold defAll
    split
    · split
      · rw [defAll_len]; exact defT_len _ _
      · exact defT_len _ _
    · rfl

/-- A latch's reset. -/
def resetE (z : Tri) : Int := if z.2.2 ≠ 0 ∧ z.2.2 ≠ 1 ∧ z.2.2 ≠ z.1 then 33 else 0
def defI (C : Circ) (tb : List Bool) := defAll (fun z : Int => z) (fun _ => 0) C.inputs 0 tb
def defL (C : Circ) (tb : List Bool) := defAll (fun z : Tri => z.1) resetE C.latches 0 tb
def defA (C : Circ) (tb : List Bool) := defAll (fun z : Tri => z.1) (fun _ => 0) C.ands 0 tb
/-- What is wrong with what is defined, and the table behind it. -/
def defR (C : Circ) (tb : List Bool) : (Int × Int) × List Bool :=
  if (defI C tb).1.2 = 0 then (if (defL C (defI C tb).2).1.2 = 0 then defA C (defL C (defI C tb).2).2 else defL C (defI C tb).2) else defI C tb
theorem defR_len (C : Circ) (tb : List Bool) : (defR C tb).2.length = tb.length := by
  unfold defR defI defL defA
  split
  · split
    · rw [defAll_len, defAll_len, defAll_len]
    · rw [defAll_len, defAll_len]
  · rw [defAll_len]
theorem defR_i {C : Circ} {tb : List Bool} {p : Int × Int} {t : List Bool} (h : defI C tb = (p, t)) (h0 : p.2 ≠ 0) : defR C tb = (p, t) := by unfold defR; rw [h, if_neg h0]
theorem defR_l {C : Circ} {tb t : List Bool} {p : Int × Int} {t1 : List Bool} (h : defI C tb = ((0, 0), t1)) (h' : defL C t1 = (p, t)) (h0 : p.2 ≠ 0) : defR C tb = (p, t) := by
  unfold defR; rw [h, if_pos rfl]; show (if (defL C t1).1.2 = 0 then _ else defL C t1) = _; rw [h', if_neg h0]
theorem defR_a {C : Circ} {tb t : List Bool} {p : Int × Int} {t1 t2 : List Bool} (h : defI C tb = ((0, 0), t1)) (h' : defL C t1 = ((0, 0), t2)) (h2 : defA C t2 = (p, t)) : defR C tb = (p, t) := by
  unfold defR; rw [h, if_pos rfl]; show (if (defL C t1).1.2 = 0 then defA C (defL C t1).2 else _) = _; rw [h', if_pos rfl]; exact h2
theorem ret_def {k k' : IntKind} {r : (Int × Int) × List Bool} {a b : Int} {t : List Bool} (h : r = ((a, b), t)) : Ending.returned (.tuple #[.int k a, .int k' b]) = .returned (.tuple #[.int k r.1.1, .int k' r.1.2]) := by rw [h]

/-- What stands in the midst: the box of the circuit, the table, all that was there. -/
structure Mid (w0 w : World) (bx g : Nat) (cs : Array Value) (tb : List Bool) : Prop where
  below : Below w0.heap.size w0 w
  box : Blk w bx 29 cs
  tab : Tab w g tb
theorem Mid.alloc {w0 w : World} {bx g : Nat} {cs : Array Value} {tb : List Bool} (h : Mid w0 w bx g cs tb) (o : Obj) : Mid w0 (w.alloc o) bx g cs tb :=
  ⟨h.below.alloc h.below.size o, h.box.alloc o, Blk.alloc h.tab o⟩
theorem Mid.grown {w0 w w' : World} {bx g : Nat} {cs : Array Value} {tb tb' : List Bool} (h : Mid w0 w bx g cs tb) (hg : w0.heap.size ≤ g) (hne : bx ≠ g) (hw : w.grownBy w' (some g)) (ht : Tab w' g tb') : Mid w0 w' bx g cs tb' :=
  ⟨h.below.grown hw h.below.size (fun k hk => by cases hk; exact hg), h.box.grown hw (by simpa using hne), ht⟩

set_option maxHeartbeats 4000000 in
set_option maxRecDepth 100000 in
theorem checkDefined_any (w0 w : World) (V : CV) (C : Circ) (h : C.In w0 V) (ok : C.Ok) (g : Nat) (tb : List Bool) (hb : Below w0.heap.size w0 w) (hg : w0.heap.size ≤ g) (ht : Tab w g tb) (hlen : tb.length ≤ 100000) :
    Calls Try.prog 86 #[V.val C.max, .slice (some ⟨g, 0, none⟩) tb.length tb.length] w fun e w' => e = .returned (.tuple #[.int .i64 (defR C tb).1.1, .int .i64 (defR C tb).1.2]) ∧ Below w0.heap.size w0 w' ∧ ((defR C tb).1.2 = 0 → Tab w' g (defR C tb).2) := by
  have hne : w.heap.size ≠ g := by have := Blk.lt ht; omega
  have HM := Lib.hid (Mid.mk (hb.alloc hb.size (.cells (V.cells C.max) 29)) (Blk.new w 29 (V.cells C.max)) (Blk.alloc ht _))
  obtain ⟨Vi, Vl, Vo, Vb, Vc, Vj, Vf, Va, Vs, Vt⟩ := V
  have HI := h.i
  have HL := h.l
  have HA := h.a
  have hIl := HI.len
  have hLl := HL.len
  have hAl := HA.len
  unfold maxLen at hIl hLl hAl
  obtain ⟨AI, cI, eI, _, _, hI⟩ := HI
  obtain ⟨AL, cL, eL, _, _, hL⟩ := HL
  obtain ⟨AA, cA, eA, _, _, hA⟩ := HA
  simp only at eI eL eA
  subst eI eL eA
  have HI := Lib.hid hI
  have HL := Lib.hid hL
  have HA := Lib.hid hA
  have HOK := Lib.hid ok
  clear hI hL hA h ht hb ok
  generalize hr : defR C tb = r
  have HR := Lib.hid hr
  clear hr
  generalize hnI : C.inputs.length = nI at *
  generalize hnL : C.latches.length = nL at *
  generalize hnA : C.ands.length = nA at *
  have HNI := Lib.hid hnI
  have HNL := Lib.hid hnL
  have HNA := Lib.hid hnA
  clear hnI hnL hnA
  generalize hN : tb.length = N at *
  have HN := Lib.hid hN
  clear hN
  go_enter Try.func86, Try.ntmps86
  go_wp2
  go_loopw [18] (fun i wr => ∃ (k : Nat) (tk : List Bool), k ≤ nI ∧ i = .int .i64 k ∧ tk.length = N ∧ defI C tb = defAll (fun z : Int => z) (fun _ => 0) (C.inputs.drop k) k tk ∧ Mid w0 wr w.heap.size g _ tk) (fun i _ => nI - (intOf i).toNat)
  case atStart => exact ⟨0, tb, Nat.zero_le _, rfl, HN.out, rfl, HM.out⟩
  case round =>
    obtain ⟨k, tk, hk, rfl, htl, hall, hmid⟩ := hrel
    have HAI := Lib.hid hall
    have HMM := Lib.hid hmid
    have HTL := Lib.hid htl
    clear hall hmid htl
    have hwr := HMM.out.below.size
    by_cases hlt : k < nI
    · have hx := List.getElem?_eq_getElem (l := C.inputs) (i := k) (by rw [HNI.out]; exact hlt)
      generalize C.inputs[k]'(by rw [HNI.out]; exact hlt) = x at hx
      obtain ⟨b, off, hA0, hb, hcell⟩ := HI.out k x hx
      subst hA0
      have HX := Lib.hid hx
      have hxo := HOK.out.i x (List.mem_of_getElem? HX.out)
      clear hx
      have h0 := (HMM.out.below.cell (p := ⟨b, off + (k * 1 + 0), none⟩) hb).trans (hcell 0 _ rfl)
      simp only [Nat.add_zero, Nat.mul_one] at h0
      clear hcell
      have hcon := fun (wx : World) (hx : Tab wx g tk) => define_any wx g tk x hxo hx (by rw [HTL.out]; exact hlen)
      rw [HTL.out] at hcon
      have HC := Lib.hid hcon
      clear hcon
      by_cases hu : defE tk x = 0
      · have HU := Lib.hid hu
        clear hu
        go_wp2_with (go_at_call 124; refine (HC.out _ HMM.out.tab).mono ?_; rw [HU.out]; rintro e w2 ⟨rfl, hgr, htab⟩; have HM2 := Lib.hid ((HMM.out).grown hg hne hgr htab); clear hgr htab)
        go_roundw
        case rel => exact ⟨k + 1, _, by omega, by go_num, by rw [defT_len]; exact HTL.out, by rw [HAI.out]; exact defAll_step HX.out HU.out rfl, HM2.out⟩
        case measure => simp [intOf]; omega
      · have hq : (defE tk x == 0) = false := by simpa using hu
        have hq2 : (defE tk x != 0) = true := by simpa using hu
        have HU := Lib.hid hu
        clear hu
        go_wp2_with (go_at_call 124; refine (HC.out _ HMM.out.tab).mono ?_; rintro e w2 ⟨rfl, hgr, htab⟩; have HM2 := Lib.hid ((HMM.out).grown hg hne hgr htab); clear hgr htab)
        go_ret2
        have hfin := defR_i (HAI.out.trans (defAll_stop HX.out HU.out)) HU.out
        refine ⟨ret_def (by rw [← HR.out]; exact hfin), HM2.out.below, fun h0 => ?_⟩
        rw [← HR.out, hfin] at h0
        exact absurd h0 HU.out
    · have : k = nI := by omega
      subst this
      have HEI := Lib.hid (HAI.out.trans (defAll_end (by rw [HNI.out]; exact Nat.le_refl _)))
      clear HAI
      have h2 := HMM.out.box.cell 2
      simp at h2
      have HMI := HMM
      have HTLI := HTL
      clear HMM HTL
      generalize tk = tI at *
      go_wp2
      go_loopw [34] (fun i wr => ∃ (k : Nat) (tk : List Bool), k ≤ nL ∧ i = .int .i64 k ∧ tk.length = N ∧ defL C tI = defAll (fun z : Tri => z.1) resetE (C.latches.drop k) k tk ∧ Mid w0 wr w.heap.size g _ tk) (fun i _ => nL - (intOf i).toNat)
      case atStart => exact ⟨0, tI, Nat.zero_le _, rfl, HTLI.out, rfl, HMI.out⟩
      case round =>
        obtain ⟨k, tk, hk, rfl, htl, hall, hmid⟩ := hrel
        have HAL := Lib.hid hall
        have HMM := Lib.hid hmid
        have HTL := Lib.hid htl
        clear hall hmid htl
        have hwr := HMM.out.below.size
        by_cases hlt : k < nL
        · have hx := List.getElem?_eq_getElem (l := C.latches) (i := k) (by rw [HNL.out]; exact hlt)
          generalize C.latches[k]'(by rw [HNL.out]; exact hlt) = x at hx
          obtain ⟨b, off, hA0, hb, hcell⟩ := HL.out k x hx
          subst hA0
          have HX := Lib.hid hx
          have hxo := HOK.out.l x (List.mem_of_getElem? HX.out)
          clear hx
          obtain ⟨x0, x1, x2⟩ := x
          have h0 := (HMM.out.below.cell (p := ⟨b, off + (k * 3 + 0), none⟩) hb).trans (hcell 0 _ rfl)
          have h1 := (HMM.out.below.cell (p := ⟨b, off + (k * 3 + 1), none⟩) hb).trans (hcell 1 _ rfl)
          have h2 := (HMM.out.below.cell (p := ⟨b, off + (k * 3 + 2), none⟩) hb).trans (hcell 2 _ rfl)
          simp only [Nat.add_zero, ← Nat.add_assoc] at h0 h1 h2
          clear hcell
          have hcon := fun (wx : World) (hx : Tab wx g tk) => define_any wx g tk x0 hxo.1 hx (by rw [HTL.out]; exact hlen)
          rw [HTL.out] at hcon
          have HC := Lib.hid hcon
          clear hcon
          have hgl := Blk.lt HMM.out.tab
          by_cases hu : defE tk x0 = 0
          · have HU := Lib.hid hu
            clear hu
            by_cases hr0 : x2 = 0
            · subst hr0
              have HRS : Hid (resetE (x0, x1, 0) = 0) := Lib.hid (by unfold resetE; simp)
              go_wp2_with (go_at_call 124; refine (HC.out _ (Blk.alloc HMM.out.tab _)).mono ?_; rw [HU.out]; rintro e w2 ⟨rfl, hgr, htab⟩; have HM2 := Lib.hid ((HMM.out.alloc _).grown hg hne hgr htab); have hcc := (Blk.new wr 70 _).grown hgr (by simp; omega); have hc0 := hcc.cell 0; have hc2 := hcc.cell 2; simp at hc0 hc2; clear hcc; clear hgr htab)
              go_roundw
              case rel => exact ⟨k + 1, _, by omega, by go_num, by rw [defT_len]; exact HTL.out, by rw [HAL.out]; exact defAll_step HX.out HU.out HRS.out, HM2.out⟩
              case measure => simp [intOf]; omega
            · by_cases hr1 : x2 = 1
              · subst hr1
                have HRS : Hid (resetE (x0, x1, 1) = 0) := Lib.hid (by unfold resetE; simp)
                go_wp2_with (go_at_call 124; refine (HC.out _ (Blk.alloc HMM.out.tab _)).mono ?_; rw [HU.out]; rintro e w2 ⟨rfl, hgr, htab⟩; have HM2 := Lib.hid ((HMM.out.alloc _).grown hg hne hgr htab); have hcc := (Blk.new wr 70 _).grown hgr (by simp; omega); have hc0 := hcc.cell 0; have hc2 := hcc.cell 2; simp at hc0 hc2; clear hcc; clear hgr htab)
                go_roundw
                case rel => exact ⟨k + 1, _, by omega, by go_num, by rw [defT_len]; exact HTL.out, by rw [HAL.out]; exact defAll_step HX.out HU.out HRS.out, HM2.out⟩
                case measure => simp [intOf]; omega
              · by_cases hr2 : x2 = x0
                · subst hr2
                  have HRS : Hid (resetE (x2, x1, x2) = 0) := Lib.hid (by unfold resetE; simp)
                  go_wp2_with (go_at_call 124; refine (HC.out _ (Blk.alloc HMM.out.tab _)).mono ?_; rw [HU.out]; rintro e w2 ⟨rfl, hgr, htab⟩; have HM2 := Lib.hid ((HMM.out.alloc _).grown hg hne hgr htab); have hcc := (Blk.new wr 70 _).grown hgr (by simp; omega); have hc0 := hcc.cell 0; have hc2 := hcc.cell 2; simp at hc0 hc2; clear hcc; clear hgr htab)
                  go_roundw
                  case rel => exact ⟨k + 1, _, by omega, by go_num, by rw [defT_len]; exact HTL.out, by rw [HAL.out]; exact defAll_step HX.out HU.out HRS.out, HM2.out⟩
                  case measure => simp [intOf]; omega
                · have HRS : Hid (resetE (x0, x1, x2) = 33) := Lib.hid (by unfold resetE; exact if_pos ⟨hr0, hr1, hr2⟩)
                  have e1 : (x2 == 0) = false := by simpa using hr0
                  have e2 : (x2 == 1) = false := by simpa using hr1
                  have e3 : (x2 == x0) = false := by simpa using hr2
                  have e4 : (x2 != 0) = true := by simpa using hr0
                  have e5 : (x2 != 1) = true := by simpa using hr1
                  have e6 : (x2 != x0) = true := by simpa using hr2
                  go_wp2_with (go_at_call 124; refine (HC.out _ (Blk.alloc HMM.out.tab _)).mono ?_; rw [HU.out]; rintro e w2 ⟨rfl, hgr, htab⟩; have HM2 := Lib.hid ((HMM.out.alloc _).grown hg hne hgr htab); have hcc := (Blk.new wr 70 _).grown hgr (by simp; omega); have hc0 := hcc.cell 0; have hc2 := hcc.cell 2; simp at hc0 hc2; clear hcc; clear hgr htab)
                  go_ret2
                  have hfin := defR_l HEI.out (HAL.out.trans (defAll_bad HX.out HU.out (by rw [HRS.out]; omega))) (by show resetE _ ≠ 0; rw [HRS.out]; omega)
                  rw [HRS.out] at hfin
                  refine ⟨ret_def (by rw [← HR.out]; exact hfin), HM2.out.below, fun h0 => ?_⟩
                  rw [← HR.out, hfin] at h0; cases h0
          · have hq : (defE tk x0 == 0) = false := by simpa using hu
            have hq2 : (defE tk x0 != 0) = true := by simpa using hu
            have HU := Lib.hid hu
            clear hu
            go_wp2_with (go_at_call 124; refine (HC.out _ (Blk.alloc HMM.out.tab _)).mono ?_; rintro e w2 ⟨rfl, hgr, htab⟩; have HM2 := Lib.hid ((HMM.out.alloc _).grown hg hne hgr htab); have hcc := (Blk.new wr 70 _).grown hgr (by simp; omega); have hc0 := hcc.cell 0; have hc2 := hcc.cell 2; simp at hc0 hc2; clear hcc; clear hgr htab)
            go_ret2
            have hfin := defR_l HEI.out (HAL.out.trans (defAll_stop HX.out HU.out)) HU.out
            refine ⟨ret_def (by rw [← HR.out]; exact hfin), HM2.out.below, fun h0 => ?_⟩
            rw [← HR.out, hfin] at h0
            exact absurd h0 HU.out
        · have : k = nL := by omega
          subst this
          have HEL := Lib.hid (HAL.out.trans (defAll_end (by rw [HNL.out]; exact Nat.le_refl _)))
          clear HAL
          have h8 := HMM.out.box.cell 8
          simp at h8
          have HML := HMM
          have HTLL := HTL
          clear HMM HTL
          generalize tk = tL at *
          go_wp2
          go_loopw [67] (fun i wr => ∃ (k : Nat) (tk : List Bool), k ≤ nA ∧ i = .int .i64 k ∧ tk.length = N ∧ defA C tL = defAll (fun z : Tri => z.1) (fun _ => 0) (C.ands.drop k) k tk ∧ Mid w0 wr w.heap.size g _ tk) (fun i _ => nA - (intOf i).toNat)
          case atStart => exact ⟨0, tL, Nat.zero_le _, rfl, HTLL.out, rfl, HML.out⟩
          case round =>
            obtain ⟨k, tk, hk, rfl, htl, hall, hmid⟩ := hrel
            have HAA := Lib.hid hall
            have HMM := Lib.hid hmid
            have HTL := Lib.hid htl
            clear hall hmid htl
            have hwr := HMM.out.below.size
            by_cases hlt : k < nA
            · have hx := List.getElem?_eq_getElem (l := C.ands) (i := k) (by rw [HNA.out]; exact hlt)
              generalize C.ands[k]'(by rw [HNA.out]; exact hlt) = x at hx
              obtain ⟨b, off, hA0, hb, hcell⟩ := HA.out k x hx
              subst hA0
              have HX := Lib.hid hx
              have hxo := HOK.out.a x (List.mem_of_getElem? HX.out)
              clear hx
              obtain ⟨x0, x1, x2⟩ := x
              have h0 := (HMM.out.below.cell (p := ⟨b, off + (k * 3 + 0), none⟩) hb).trans (hcell 0 _ rfl)
              have h1 := (HMM.out.below.cell (p := ⟨b, off + (k * 3 + 1), none⟩) hb).trans (hcell 1 _ rfl)
              have h2 := (HMM.out.below.cell (p := ⟨b, off + (k * 3 + 2), none⟩) hb).trans (hcell 2 _ rfl)
              simp only [Nat.add_zero, ← Nat.add_assoc] at h0 h1 h2
              clear hcell
              have hcon := fun (wx : World) (hx : Tab wx g tk) => define_any wx g tk x0 hxo.1 hx (by rw [HTL.out]; exact hlen)
              rw [HTL.out] at hcon
              have HC := Lib.hid hcon
              clear hcon
              by_cases hu : defE tk x0 = 0
              · have HU := Lib.hid hu
                clear hu
                go_wp2_with (go_at_call 124; refine (HC.out _ (Blk.alloc HMM.out.tab _)).mono ?_; rw [HU.out]; rintro e w2 ⟨rfl, hgr, htab⟩; have HM2 := Lib.hid ((HMM.out.alloc _).grown hg hne hgr htab); clear hgr htab)
                go_roundw
                case rel => exact ⟨k + 1, _, by omega, by go_num, by rw [defT_len]; exact HTL.out, by rw [HAA.out]; exact defAll_step HX.out HU.out rfl, HM2.out⟩
                case measure => simp [intOf]; omega
              · have hq : (defE tk x0 == 0) = false := by simpa using hu
                have hq2 : (defE tk x0 != 0) = true := by simpa using hu
                have HU := Lib.hid hu
                clear hu
                go_wp2_with (go_at_call 124; refine (HC.out _ (Blk.alloc HMM.out.tab _)).mono ?_; rintro e w2 ⟨rfl, hgr, htab⟩; have HM2 := Lib.hid ((HMM.out.alloc _).grown hg hne hgr htab); clear hgr htab)
                go_ret2
                have hfin := defR_a HEI.out HEL.out (HAA.out.trans (defAll_stop HX.out HU.out))
                refine ⟨ret_def (by rw [← HR.out]; exact hfin), HM2.out.below, fun h0 => ?_⟩
                rw [← HR.out, hfin] at h0
                exact absurd h0 HU.out
            · have : k = nA := by omega
              subst this
              have HEA := Lib.hid (HAA.out.trans (defAll_end (by rw [HNA.out]; exact Nat.le_refl _)))
              clear HAA
              go_wp2
              go_ret2
              have hfin := defR_a HEI.out HEL.out HEA.out
              refine ⟨ret_def (by rw [← HR.out]; exact hfin), HMM.out.below, fun _ => ?_⟩
              rw [← HR.out, hfin]
              exact HMM.out.tab
end Go.Proofs.Ytdodhbfplglbkaa

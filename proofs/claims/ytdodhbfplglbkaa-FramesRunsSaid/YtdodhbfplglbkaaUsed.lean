/- The contract of checkUsed: the literals that are used. -/
import Derived.Test.YtdodhbfplglbkaaDefd
import Derived.Test.YtdodhbfplglbkaaSizes
import Derived.Laws.Tables
import Derived.Deep.RegionWith
namespace Go.Proofs.Ytdodhbfplglbkaa
open Go.RowKit

theorem build_three (a b c : Option Addr) (n1 n2 n3 c1 c2 c3 : Nat) (w : World) : (Instr.build 150 #[(0, .slice a n1 c1), (1, .slice b n2 c2), (2, .slice c n3 c3)]).run Try.prog w = .ok (.agg #[.slice a n1 c1, .slice b n2 c2, .slice c n3 c3]) w := run_build w _ _ _ (by kernel_rfl)

theorem index_three_any (x y z : Value) (w : World) (k : Int) : (Instr.index 150 (.agg #[x, y, z]) (.int .i64 k)).run Try.prog w = if k = 0 then .ok x w else if k = 1 then .ok y w else if k = 2 then .ok z w else (Instr.index 150 (.agg #[x, y, z]) (.int .i64 k)).run Try.prog w := by
  by_cases h0 : k = 0
  · subst h0; rw [if_pos rfl]; kernel_rfl
  · by_cases h1 : k = 1
    · subst h1; rw [if_neg (by decide), if_pos rfl]; kernel_rfl
    · by_cases h2 : k = 2
      · subst h2; rw [if_neg (by decide), if_neg (by decide), if_pos rfl]; kernel_rfl
      · rw [if_neg h0, if_neg h1, if_neg h2]
@[go_sem] theorem index_three_0 (x y z : Value) (w : World) : (Instr.index 150 (.agg #[x, y, z]) (.int .i64 0)).run Try.prog w = .ok x w := by rw [index_three_any, if_pos rfl]
@[go_sem] theorem index_three_1 (x y z : Value) (w : World) : (Instr.index 150 (.agg #[x, y, z]) (.int .i64 1)).run Try.prog w = .ok y w := by rw [index_three_any, if_neg (by decide), if_pos rfl]
@[go_sem] theorem index_three_2 (x y z : Value) (w : World) : (Instr.index 150 (.agg #[x, y, z]) (.int .i64 2)).run Try.prog w = .ok z w := by rw [index_three_any, if_neg (by decide), if_neg (by decide), if_pos rfl]

def gateE (tb : List Bool) (z : Tri) : Int := if useE tb z.2.1 = 0 then useE tb z.2.2 else useE tb z.2.1
def usedL (C : Circ) (tb : List Bool) := firstE (fun z : Tri => useE tb z.2.1) C.latches 0
def usedI (zs : List Int) (tb : List Bool) := firstE (useE tb) zs 0
def usedJ (C : Circ) (tb : List Bool) := firstE (fun zs => (usedI zs tb).2) C.justice 0
def usedA (C : Circ) (tb : List Bool) := firstE (gateE tb) C.ands 0
/-- What is wrong with what is used. -/
def usedR (C : Circ) (tb : List Bool) : Int × Int :=
  thenE (usedL C tb) (thenE (usedI C.outputs tb) (thenE (usedI C.bads tb) (thenE (usedI C.constraints tb) (thenE (usedJ C tb) (thenE (usedI C.fairness tb) (usedA C tb))))))
theorem thenE_stop {a b p : Int × Int} (h : a = p) (h0 : p.2 ≠ 0) : thenE a b = p := by subst h; exact if_neg h0
theorem thenE_on {a b p q : Int × Int} (h : a = p) (h0 : p.2 = 0) (h1 : b = q) : thenE a b = q := by subst h; subst h1; exact if_pos h0
theorem gateE_l {tb : List Bool} {z : Tri} (h : useE tb z.2.1 ≠ 0) : gateE tb z = useE tb z.2.1 := if_neg h
theorem gateE_r {tb : List Bool} {z : Tri} (h : useE tb z.2.1 = 0) : gateE tb z = useE tb z.2.2 := if_pos h
theorem ret_used {k k' : IntKind} {a b : Int} {r : Int × Int} (h : r = (a, b)) : Ending.returned (.tuple #[.int k a, .int k' b]) = .returned (.tuple #[.int k r.1, .int k' r.2]) := by rw [h]
set_option maxHeartbeats 20000000 in
set_option maxRecDepth 100000 in
theorem checkUsed_any (w0 w : World) (V : CV) (C : Circ) (h : C.In w0 V) (ok : C.Ok) (g : Nat) (tb : List Bool) (hb : Below w0.heap.size w0 w) (ht : Tab w g tb) (hlen : tb.length ≤ 100000) :
    Calls Try.prog 87 #[V.val C.max, .slice (some ⟨g, 0, none⟩) tb.length tb.length] w fun e w' => e = .returned (.tuple #[.int .i64 (usedR C tb).1, .int .i64 (usedR C tb).2]) ∧ Below w.heap.size w w' := by
  have HB0 := Lib.hid (Below.refl w.heap.size w)
  have HM := Lib.hid (Mid.mk ((Below.refl w.heap.size w).alloc (Nat.le_refl _) (.cells (V.cells C.max) 29)) (Blk.new w 29 (V.cells C.max)) (Blk.alloc ht _))
  have HIN := Lib.hid (h.below (hb.mono (Nat.le_refl _)))
  obtain ⟨Vi, Vl, Vo, Vb, Vc, Vj, Vf, Va, Vs, Vt⟩ := V
  have hLl := HIN.out.l.len
  have hAl := HIN.out.a.len
  unfold maxLen at hLl hAl
  obtain ⟨AL, cL, eL, _, _, hL⟩ := HIN.out.l
  obtain ⟨AJ, cJ, eJ, hJl, hJ⟩ := HIN.out.j.at_
  obtain ⟨AA, cA, eA, _, _, hA⟩ := HIN.out.a
  unfold maxLen at hJl
  have HO := HIN.out.o
  have HBD := HIN.out.b
  have HC := HIN.out.c
  simp only at HO HBD HC
  obtain ⟨AO, nO, cO, eO⟩ : ∃ A n c, Vo = .slice A n c := by obtain ⟨A, c, e, _⟩ := HO; exact ⟨_, _, _, e⟩
  obtain ⟨AB, nB, cB, eB⟩ : ∃ A n c, Vb = .slice A n c := by obtain ⟨A, c, e, _⟩ := HBD; exact ⟨_, _, _, e⟩
  obtain ⟨AC, nC, cC, eC⟩ : ∃ A n c, Vc = .slice A n c := by obtain ⟨A, c, e, _⟩ := HC; exact ⟨_, _, _, e⟩
  subst eO eB eC
  have HO' := Lib.hid HO
  have HBD' := Lib.hid HBD
  have HC' := Lib.hid HC
  clear HO HBD HC
  have hb3 := build_three AO AB AC nO nB nC cO cB cC
  have HF : Hid (RowE 1 encI w Vf C.fairness) := HIN.out.f
  simp only at eL eJ eA
  subst eL eJ eA
  have HL := Lib.hid hL
  have HJ := Lib.hid hJ
  have HA := Lib.hid hA
  have HOK := Lib.hid ok
  clear hL hJ hA h ht hb ok HIN
  generalize hr : usedR C tb = r
  have HR := Lib.hid hr
  clear hr
  unfold usedR at HR
  generalize hnL : C.latches.length = nL at *
  generalize hnJ : C.justice.length = nJ at *
  generalize hnA : C.ands.length = nA at *
  have HNL := Lib.hid hnL
  have HNJ := Lib.hid hnJ
  have HNA := Lib.hid hnA
  clear hnL hnJ hnA
  have huse := fun (wx : World) (l : Int) (hl : I64 l) (hx : Tab wx g tb) => use_any wx g tb l hl hx hlen
  have hall := fun (wx : World) (v : Value) (zs : List Int) (p q : Int) (hp : usedI zs tb = (p, q)) (hx : Tab wx g tb) (hz : RowE 1 encI wx v zs) (ho : ∀ z ∈ zs, I64 z) => by
    have := useAll_any wx g tb v zs hx hlen hz ho
    change usedI zs tb = _ at hp
    unfold usedI at hp
    rw [hp] at this
    exact this
  have HUSE := Lib.hid huse
  have HALL := Lib.hid hall
  clear huse hall
  generalize hN : tb.length = N at *
  clear hN
  go_enter Try.func87, Try.ntmps87
  go_wp2
  go_loopw [26] (fun i wr => ∃ k : Nat, k ≤ nL ∧ i = .int .i64 k ∧ usedL C tb = firstE (fun z : Tri => useE tb z.2.1) (C.latches.drop k) k ∧ Mid w wr w.heap.size g _ tb) (fun i _ => nL - (intOf i).toNat)
  case atStart => exact ⟨0, Nat.zero_le _, rfl, rfl, HM.out⟩
  case round =>
    obtain ⟨k, hk, rfl, hall, hmid⟩ := hrel
    have HHL := Lib.hid hall
    have HMM := Lib.hid hmid
    clear hall hmid
    by_cases hlt : k < nL
    · have hx := List.getElem?_eq_getElem (l := C.latches) (i := k) (by rw [HNL.out]; exact hlt)
      generalize C.latches[k]'(by rw [HNL.out]; exact hlt) = x at hx
      obtain ⟨b, off, rfl, hb, hcell⟩ := HL.out k x hx
      have HX := Lib.hid hx
      have hxo := HOK.out.l x (List.mem_of_getElem? HX.out)
      clear hx
      obtain ⟨x0, x1, x2⟩ := x
      have h0 := (HMM.out.below.cell (p := ⟨b, off + (k * 3 + 0), none⟩) hb).trans (hcell 0 _ rfl)
      have h1 := (HMM.out.below.cell (p := ⟨b, off + (k * 3 + 1), none⟩) hb).trans (hcell 1 _ rfl)
      have h2 := (HMM.out.below.cell (p := ⟨b, off + (k * 3 + 2), none⟩) hb).trans (hcell 2 _ rfl)
      simp only [Nat.add_zero, ← Nat.add_assoc] at h0 h1 h2
      clear hcell
      by_cases hu : useE tb x1 = 0
      · have HU := Lib.hid hu
        clear hu
        go_wp2_with (go_at_call_of 125 x1; refine (HUSE.out _ x1 hxo.2.1 (Blk.alloc HMM.out.tab _)).mono ?_; rw [HU.out]; rintro e w1 ⟨rfl, rfl⟩)
        go_roundw
        case rel => exact ⟨k + 1, by omega, by go_num, by rw [HHL.out]; exact firstE_step HX.out HU.out, HMM.out.alloc _⟩
        case measure => simp [intOf]; omega
      · have hq : (useE tb x1 == 0) = false := by simpa using hu
        have hp : (useE tb x1 != 0) = true := by simpa using hu
        have HU := Lib.hid hu
        clear hu
        go_wp2_with (go_at_call_of 125 x1; refine (HUSE.out _ x1 hxo.2.1 (Blk.alloc HMM.out.tab _)).mono ?_; rintro e w1 ⟨rfl, rfl⟩)
        go_ret2
        have hs := firstE_stop (f := fun z : Tri => useE tb z.2.1) HX.out HU.out
        have hfin := HR.out.symm.trans (thenE_stop (HHL.out.trans hs) HU.out)
        exact ⟨ret_used hfin, (HMM.out.alloc _).below⟩
    · have : k = nL := by omega
      subst this
      have HEL := Lib.hid (HHL.out.trans (firstE_end (by rw [HNL.out]; exact Nat.le_refl _)))
      clear HHL
      have h3 := HMM.out.box.cell 3
      have h4 := HMM.out.box.cell 4
      have h5 := HMM.out.box.cell 5
      simp at h3 h4 h5
      go_wp2
      have HM2 := HMM
      clear HMM
      go_loopw [47] (fun i wr => ∃ k : Nat, k ≤ 3 ∧ i = .int .i64 k ∧ (0 < k → ∃ p, usedI C.outputs tb = (p, 0)) ∧ (1 < k → ∃ p, usedI C.bads tb = (p, 0)) ∧ (2 < k → ∃ p, usedI C.constraints tb = (p, 0)) ∧ Mid w wr w.heap.size g _ tb) (fun i _ => 3 - (intOf i).toNat)
      case atStart => exact ⟨0, Nat.zero_le _, rfl, fun h => by omega, fun h => by omega, fun h => by omega, HM2.out⟩
      case round =>
        obtain ⟨k, hk, rfl, hO, hB, hC, hmid⟩ := hrel
        have hO := Lib.hid hO
        have hB := Lib.hid hB
        have hC := Lib.hid hC
        have HMM := Lib.hid hmid
        clear hmid
        have hk4 : k = 0 ∨ k = 1 ∨ k = 2 ∨ k = 3 := by omega
        rcases hk4 with rfl | rfl | rfl | rfl
        · obtain ⟨p, q, hpq⟩ : ∃ p q, usedI C.outputs tb = (p, q) := ⟨_, _, rfl⟩
          have HP3 := Lib.hid hpq
          clear hpq
          by_cases hq0 : q = 0
          · subst hq0
            go_wp2_with (go_at_call 126; refine (HALL.out _ _ C.outputs p 0 HP3.out HMM.out.tab (RowE.below HO'.out HMM.out.below) (HOK.out.o)).mono ?_; rintro e w1 ⟨rfl, rfl⟩)
            go_roundw
            case rel => exact ⟨1, by omega, by go_num, (fun h => by first | exact ⟨_, HP3.out⟩ | exact hO.out (by omega) | omega), (fun h => by first | exact ⟨_, HP3.out⟩ | exact hB.out (by omega) | omega), (fun h => by first | exact ⟨_, HP3.out⟩ | exact hC.out (by omega) | omega), HMM.out⟩
            case measure => simp [intOf]
          · have hq1 : (q == 0) = false := by simpa using hq0
            have hq2 : (q != 0) = true := by simpa using hq0
            have HQ := Lib.hid hq0
            clear hq0
            go_wp2_with (go_at_call 126; refine (HALL.out _ _ C.outputs p q HP3.out HMM.out.tab (RowE.below HO'.out HMM.out.below) (HOK.out.o)).mono ?_; rintro e w1 ⟨rfl, rfl⟩)
            go_ret2
            have hfin := HR.out.symm.trans (thenE_on HEL.out rfl (thenE_stop HP3.out HQ.out))
            exact ⟨ret_used hfin, HMM.out.below⟩
        · obtain ⟨p, q, hpq⟩ : ∃ p q, usedI C.bads tb = (p, q) := ⟨_, _, rfl⟩
          have HP3 := Lib.hid hpq
          clear hpq
          by_cases hq0 : q = 0
          · subst hq0
            go_wp2_with (go_at_call 126; refine (HALL.out _ _ C.bads p 0 HP3.out HMM.out.tab (RowE.below HBD'.out HMM.out.below) (HOK.out.b)).mono ?_; rintro e w1 ⟨rfl, rfl⟩)
            go_roundw
            case rel => exact ⟨2, by omega, by go_num, (fun h => by first | exact ⟨_, HP3.out⟩ | exact hO.out (by omega) | omega), (fun h => by first | exact ⟨_, HP3.out⟩ | exact hB.out (by omega) | omega), (fun h => by first | exact ⟨_, HP3.out⟩ | exact hC.out (by omega) | omega), HMM.out⟩
            case measure => simp [intOf]
          · have hq1 : (q == 0) = false := by simpa using hq0
            have hq2 : (q != 0) = true := by simpa using hq0
            have HQ := Lib.hid hq0
            clear hq0
            obtain ⟨pO, eO⟩ := hO.out (by omega)
            have HEO := Lib.hid eO
            clear eO
            go_wp2_with (go_at_call 126; refine (HALL.out _ _ C.bads p q HP3.out HMM.out.tab (RowE.below HBD'.out HMM.out.below) (HOK.out.b)).mono ?_; rintro e w1 ⟨rfl, rfl⟩)
            go_ret2
            have hfin := HR.out.symm.trans (thenE_on HEL.out rfl (thenE_on HEO.out rfl (thenE_stop HP3.out HQ.out)))
            exact ⟨ret_used hfin, HMM.out.below⟩
        · obtain ⟨p, q, hpq⟩ : ∃ p q, usedI C.constraints tb = (p, q) := ⟨_, _, rfl⟩
          have HP3 := Lib.hid hpq
          clear hpq
          by_cases hq0 : q = 0
          · subst hq0
            go_wp2_with (go_at_call 126; refine (HALL.out _ _ C.constraints p 0 HP3.out HMM.out.tab (RowE.below HC'.out HMM.out.below) (HOK.out.c)).mono ?_; rintro e w1 ⟨rfl, rfl⟩)
            go_roundw
            case rel => exact ⟨3, by omega, by go_num, (fun h => by first | exact ⟨_, HP3.out⟩ | exact hO.out (by omega) | omega), (fun h => by first | exact ⟨_, HP3.out⟩ | exact hB.out (by omega) | omega), (fun h => by first | exact ⟨_, HP3.out⟩ | exact hC.out (by omega) | omega), HMM.out⟩
            case measure => simp [intOf]
          · have hq1 : (q == 0) = false := by simpa using hq0
            have hq2 : (q != 0) = true := by simpa using hq0
            have HQ := Lib.hid hq0
            clear hq0
            obtain ⟨pO, eO⟩ := hO.out (by omega)
            have HEO := Lib.hid eO
            clear eO
            obtain ⟨pB, eB⟩ := hB.out (by omega)
            have HEB := Lib.hid eB
            clear eB
            go_wp2_with (go_at_call 126; refine (HALL.out _ _ C.constraints p q HP3.out HMM.out.tab (RowE.below HC'.out HMM.out.below) (HOK.out.c)).mono ?_; rintro e w1 ⟨rfl, rfl⟩)
            go_ret2
            have hfin := HR.out.symm.trans (thenE_on HEL.out rfl (thenE_on HEO.out rfl (thenE_on HEB.out rfl (thenE_stop HP3.out HQ.out))))
            exact ⟨ret_used hfin, HMM.out.below⟩
        · obtain ⟨pO, eO⟩ := hO.out (by omega)
          obtain ⟨pB, eB⟩ := hB.out (by omega)
          obtain ⟨pC, eC⟩ := hC.out (by omega)
          have HEO := Lib.hid eO
          have HEB := Lib.hid eB
          have HEC := Lib.hid eC
          clear eO eB eC hO hB hC
          have h6 := HMM.out.box.cell 6
          simp at h6
          go_wp2
          have HM3 := HMM
          clear HMM
          go_loopw [64] (fun i wr => ∃ k : Nat, k ≤ nJ ∧ i = .int .i64 k ∧ usedJ C tb = firstE (fun zs => (usedI zs tb).2) (C.justice.drop k) k ∧ Mid w wr w.heap.size g _ tb) (fun i _ => nJ - (intOf i).toNat)
          case atStart => exact ⟨0, Nat.zero_le _, rfl, rfl, HM3.out⟩
          case round =>
            obtain ⟨k, hk, rfl, hall, hmid⟩ := hrel
            have HHJ := Lib.hid hall
            have HMM := Lib.hid hmid
            clear hall hmid
            by_cases hlt : k < nJ
            · have hx := List.getElem?_eq_getElem (l := C.justice) (i := k) (by rw [HNJ.out]; exact hlt)
              generalize C.justice[k]'(by rw [HNJ.out]; exact hlt) = x at hx
              obtain ⟨b, off, u, rfl, hb, hcell, hrow⟩ := HJ.out k x hx
              have HX := Lib.hid hx
              have hxo := HOK.out.j x (List.mem_of_getElem? HX.out)
              have HXO := Lib.hid hxo
              have HROW := Lib.hid hrow
              clear hx hxo hrow
              have h0 := (HMM.out.below.cell (p := ⟨b, off + k, none⟩) hb).trans hcell
              clear hcell
              obtain ⟨p, q, hpq⟩ : ∃ p q, usedI x tb = (p, q) := ⟨_, _, rfl⟩
              have HPJ := Lib.hid hpq
              clear hpq
              by_cases hq0 : q = 0
              · subst hq0
                go_wp2_with (go_at_call 126; refine (HALL.out _ u x p 0 HPJ.out HMM.out.tab (RowE.below HROW.out HMM.out.below) (HXO.out)).mono ?_; rintro e w1 ⟨rfl, rfl⟩)
                go_roundw
                case rel => first | exact ⟨k + 1, by omega, by go_num, by rw [HHJ.out]; exact firstE_step HX.out (by rw [HPJ.out]), HMM.out⟩ | ((repeat apply Exists.intro); exact ⟨⟨k + 1, by omega, by go_num, by rw [HHJ.out]; exact firstE_step HX.out (by rw [HPJ.out]), HMM.out⟩, rfl⟩)
                case measure => first | (simp [intOf]; omega) | omega
              · have hq1 : (q == 0) = false := by simpa using hq0
                have hq2 : (q != 0) = true := by simpa using hq0
                have HQ := Lib.hid hq0
                clear hq0
                go_wp2_with (go_at_call 126; refine (HALL.out _ u x p q HPJ.out HMM.out.tab (RowE.below HROW.out HMM.out.below) (HXO.out)).mono ?_; rintro e w1 ⟨rfl, rfl⟩)
                go_ret2
                have hs := firstE_stop (f := fun zs => (usedI zs tb).2) HX.out (by rw [HPJ.out]; exact HQ.out)
                rw [HPJ.out] at hs
                have hfin := HR.out.symm.trans (thenE_on HEL.out rfl (thenE_on HEO.out rfl (thenE_on HEB.out rfl (thenE_on HEC.out rfl (thenE_stop (HHJ.out.trans hs) HQ.out)))))
                exact ⟨ret_used hfin, HMM.out.below⟩
            · have : k = nJ := by omega
              subst this
              have HEJ := Lib.hid (HHJ.out.trans (firstE_end (by rw [HNJ.out]; exact Nat.le_refl _)))
              clear HHJ
              have h7 := HMM.out.box.cell 7
              have h8 := HMM.out.box.cell 8
              simp at h7 h8
              obtain ⟨p, q, hpq⟩ : ∃ p q, usedI C.fairness tb = (p, q) := ⟨_, _, rfl⟩
              have HPF := Lib.hid hpq
              clear hpq
              by_cases hq0 : q = 0
              · subst hq0
                have HEF := HPF
                go_wp2_with (go_at_call 126; refine (HALL.out _ Vf C.fairness p 0 HPF.out HMM.out.tab (RowE.below HF.out HMM.out.below) (HOK.out.f)).mono ?_; rintro e w1 ⟨rfl, rfl⟩)
                have HMF := HMM
                clear HMM
                go_loopw [94] (fun i wr => ∃ k : Nat, k ≤ nA ∧ i = .int .i64 k ∧ usedA C tb = firstE (gateE tb) (C.ands.drop k) k ∧ Mid w wr w.heap.size g _ tb) (fun i _ => nA - (intOf i).toNat)
                case atStart => exact ⟨0, Nat.zero_le _, rfl, rfl, HMF.out⟩
                case round =>
                  obtain ⟨k, hk, rfl, hall, hmid⟩ := hrel
                  have HHA := Lib.hid hall
                  have HMM := Lib.hid hmid
                  clear hall hmid
                  by_cases hlt : k < nA
                  · have hx := List.getElem?_eq_getElem (l := C.ands) (i := k) (by rw [HNA.out]; exact hlt)
                    generalize C.ands[k]'(by rw [HNA.out]; exact hlt) = x at hx
                    obtain ⟨b, off, rfl, hb, hcell⟩ := HA.out k x hx
                    have HX := Lib.hid hx
                    have hxo := HOK.out.a x (List.mem_of_getElem? HX.out)
                    clear hx
                    obtain ⟨x0, x1, x2⟩ := x
                    have h0 := (HMM.out.below.cell (p := ⟨b, off + (k * 3 + 0), none⟩) hb).trans (hcell 0 _ rfl)
                    have h1 := (HMM.out.below.cell (p := ⟨b, off + (k * 3 + 1), none⟩) hb).trans (hcell 1 _ rfl)
                    have h2 := (HMM.out.below.cell (p := ⟨b, off + (k * 3 + 2), none⟩) hb).trans (hcell 2 _ rfl)
                    simp only [Nat.add_zero, ← Nat.add_assoc] at h0 h1 h2
                    clear hcell
                    by_cases hu : useE tb x1 = 0
                    · by_cases hv : useE tb x2 = 0
                      · have HU := Lib.hid hu
                        have HV := Lib.hid hv
                        clear hu hv
                        go_wp2_with (first | (go_at_call_of 125 x1; refine (HUSE.out _ x1 hxo.2.1 (Blk.alloc HMM.out.tab _)).mono ?_; rw [HU.out]; rintro e w1 ⟨rfl, rfl⟩) | (go_at_call_of 125 x2; refine (HUSE.out _ x2 hxo.2.2 (Blk.alloc HMM.out.tab _)).mono ?_; rw [HV.out]; rintro e w1 ⟨rfl, rfl⟩))
                        go_roundw
                        case rel => exact ⟨k + 1, by omega, by go_num, by rw [HHA.out]; exact firstE_step HX.out ((gateE_r HU.out).trans HV.out), HMM.out.alloc _⟩
                        case measure => simp [intOf]; omega
                      · have hq : (useE tb x2 == 0) = false := by simpa using hv
                        have hp : (useE tb x2 != 0) = true := by simpa using hv
                        have HU := Lib.hid hu
                        have HV := Lib.hid hv
                        clear hu hv
                        go_wp2_with (first | (go_at_call_of 125 x1; refine (HUSE.out _ x1 hxo.2.1 (Blk.alloc HMM.out.tab _)).mono ?_; rw [HU.out]; rintro e w1 ⟨rfl, rfl⟩) | (go_at_call_of 125 x2; refine (HUSE.out _ x2 hxo.2.2 (Blk.alloc HMM.out.tab _)).mono ?_; rintro e w1 ⟨rfl, rfl⟩))
                        go_ret2
                        have hg2 := gateE_r (z := (x0, x1, x2)) HU.out
                        have hs := firstE_stop (f := gateE tb) HX.out (by rw [hg2]; exact HV.out)
                        rw [hg2] at hs
                        have hfin := HR.out.symm.trans (thenE_on HEL.out rfl (thenE_on HEO.out rfl (thenE_on HEB.out rfl (thenE_on HEC.out rfl (thenE_on HEJ.out rfl (thenE_on HEF.out rfl (HHA.out.trans hs)))))))
                        exact ⟨ret_used hfin, (HMM.out.alloc _).below⟩
                    · have hq : (useE tb x1 == 0) = false := by simpa using hu
                      have hp : (useE tb x1 != 0) = true := by simpa using hu
                      have HU := Lib.hid hu
                      clear hu
                      go_wp2_with (go_at_call_of 125 x1; refine (HUSE.out _ x1 hxo.2.1 (Blk.alloc HMM.out.tab _)).mono ?_; rintro e w1 ⟨rfl, rfl⟩)
                      go_ret2
                      have hg2 := gateE_l (z := (x0, x1, x2)) HU.out
                      have hs := firstE_stop (f := gateE tb) HX.out (by rw [hg2]; exact HU.out)
                      rw [hg2] at hs
                      have hfin := HR.out.symm.trans (thenE_on HEL.out rfl (thenE_on HEO.out rfl (thenE_on HEB.out rfl (thenE_on HEC.out rfl (thenE_on HEJ.out rfl (thenE_on HEF.out rfl (HHA.out.trans hs)))))))
                      exact ⟨ret_used hfin, (HMM.out.alloc _).below⟩
                  · have : k = nA := by omega
                    subst this
                    have HEA := Lib.hid (HHA.out.trans (firstE_end (by rw [HNA.out]; exact Nat.le_refl _)))
                    clear HHA
                    go_wp2
                    go_ret2
                    have hfin := HR.out.symm.trans (thenE_on HEL.out rfl (thenE_on HEO.out rfl (thenE_on HEB.out rfl (thenE_on HEC.out rfl (thenE_on HEJ.out rfl (thenE_on HEF.out rfl (HEA.out)))))))
                    exact ⟨ret_used hfin, HMM.out.below⟩
              · have hq1 : (q == 0) = false := by simpa using hq0
                have hq2 : (q != 0) = true := by simpa using hq0
                have HQ := Lib.hid hq0
                clear hq0
                go_wp2_with (go_at_call 126; refine (HALL.out _ Vf C.fairness p q HPF.out HMM.out.tab (RowE.below HF.out HMM.out.below) (HOK.out.f)).mono ?_; rintro e w1 ⟨rfl, rfl⟩)
                go_ret2
                have hfin := HR.out.symm.trans (thenE_on HEL.out rfl (thenE_on HEO.out rfl (thenE_on HEB.out rfl (thenE_on HEC.out rfl (thenE_on HEJ.out rfl (thenE_stop HPF.out HQ.out))))))
                exact ⟨ret_used hfin, HMM.out.below⟩
end Go.Proofs.Ytdodhbfplglbkaa

/- The document's own look at what is defined: it answers what the program's answers. -/
import Derived.Test.YtdodhbfplglbkaaRfA
import Derived.Deep.RegionHeld3
import Derived.Deep.RegionWith
import Derived.StillTailTactics
namespace Go.Proofs.Ytdodhbfplglbkaa
open Go.RowKit

theorem reads_two (w : World) (a b : Value) (t : TypeId) : ∀ (i : Nat) (z : Value), [a, b][i]? = some z → (w.alloc (.cells #[a, b] t)).cell? ⟨w.heap.size, 0 + (i * 1 + 0), none⟩ = some z := by
  intro i z hz
  rw [cell_of_row _ _ _ #[a, b] t (0, 0) (heap_alloc_new w _)]
  simpa using hz
theorem two_row (w : World) (a b : Int) : RowE 1 encI (w.alloc (.cells #[.int .i64 a, .int .i64 b] 3)) (.slice (some ⟨w.heap.size, 0, none⟩) 2 2) [a, b] := by
  refine ⟨_, 2, rfl, by simp, by simp [maxLen], fun i z hz => ⟨w.heap.size, 0, rfl, by simp, fun j u hu => ?_⟩⟩
  have hj : j = 0 := by
    have := (List.getElem?_eq_some_iff.1 hu).1
    simp at this; exact this
  subst hj
  simp at hu; subst hu
  exact reads_two w (.int .i64 a) (.int .i64 b) _ i _ (by
    have := congrArg (Option.map (Value.int .i64)) hz
    simpa [← List.getElem?_map] using this)
theorem gate_two {tb : List Bool} {z : Tri} : (firstE (useE tb) [z.2.1, z.2.2] 0).2 = gateE tb z := by
  unfold gateE firstE firstE firstE
  split
  · split
    · simp_all
    · rfl
  · rfl
set_option maxHeartbeats 20000000 in
set_option maxRecDepth 100000 in
theorem ruses_any (w : World) (V : CV) (C : Circ) (m : Nat) (h : C.In w V) (ok : C.Ok) (g : Nat) (tb : List Bool) (ht : Tab w g tb) (hm : tb.length = m + 1) (hm2 : m ≤ 16384) :
    Calls Try.prog 96 #[V.val m, .slice (some ⟨g, 0, none⟩) tb.length tb.length] w fun e w' => e = .returned (.tuple #[.int .i64 (usedR C tb).1, .int .i64 (usedR C tb).2]) ∧ Below w.heap.size w w' := by
  have HM := Lib.hid (Mid.mk ((Below.refl w.heap.size w).alloc (Nat.le_refl _) (.cells (V.cells m) 29)) (Blk.new w 29 (V.cells m)) (Blk.alloc ht _))
  have HUSE := Lib.hid (fun (wx : World) (l : Int) (hl : I64 l) (hx : Tab wx g tb) => rused_any wx V m g tb l hl hx hm hm2)
  have HALL := Lib.hid (fun (wx : World) (v : Value) (zs : List Int) (p q : Int) (hp : usedI zs tb = (p, q)) (hx : Tab wx g tb) (hz : RowE 1 encI wx v zs) (ho : ∀ z ∈ zs, I64 z) => by
    have := rusedAll_any wx V m g tb v zs hx hm hm2 hz ho
    change usedI zs tb = _ at hp
    unfold usedI at hp
    rw [hp] at this
    exact this)
  have HIN := Lib.hid h
  have HINX := Lib.hid (fun (wx : World) (hx : Below w.heap.size w wx) => h.below hx)
  obtain ⟨Vi, Vl, Vo, Vb, Vc, Vj, Vf, Va, Vs, Vt⟩ := V
  have hLl := HIN.out.l.len
  have hAl := HIN.out.a.len
  unfold maxLen at hLl hAl
  obtain ⟨AL, cL, eL, _, _, hL⟩ := HIN.out.l
  obtain ⟨AJ, cJ, eJ, hJl, hJ⟩ := HIN.out.j.at_
  obtain ⟨AA, cA, eA, _, _, hA⟩ := HIN.out.a
  unfold maxLen at hJl
  simp only at eL eJ eA
  subst eL eJ eA
  have HL := Lib.hid hL
  have HJ := Lib.hid hJ
  have HA := Lib.hid hA
  have HOK := Lib.hid ok
  clear hL hJ hA h ht ok HIN hm
  generalize hr : usedR C tb = r
  have HR := Lib.hid hr
  clear hr
  unfold usedR at HR
  generalize hnL : C.latches.length = nL at *
  generalize hnJ : C.justice.length = nJ at *
  generalize hnA : C.ands.length = nA at *
  have HNL := Lib.hid hnL
  have HNJ := Lib.hid hnJ
  have HNA := Lib.hid hnA
  clear hnL hnJ hnA
  generalize hN : tb.length = N at *
  clear hN
  obtain ⟨AO, nO, cO, eO⟩ : ∃ A n c, Vo = .slice A n c := by obtain ⟨A, c, e, _⟩ := (HINX.out w (Below.refl _ _)).o; exact ⟨_, _, _, e⟩
  obtain ⟨AB, nB, cB, eB⟩ : ∃ A n c, Vb = .slice A n c := by obtain ⟨A, c, e, _⟩ := (HINX.out w (Below.refl _ _)).b; exact ⟨_, _, _, e⟩
  obtain ⟨AC, nC, cC, eC⟩ : ∃ A n c, Vc = .slice A n c := by obtain ⟨A, c, e, _⟩ := (HINX.out w (Below.refl _ _)).c; exact ⟨_, _, _, e⟩
  subst eO eB eC
  have hb3 := build_three AO AB AC nO nB nC cO cB cC
  go_enter Try.func96, Try.ntmps96
  go_wp2
  go_loopw [6] (fun i wr => ∃ k : Nat, k ≤ nL ∧ i = .int .i64 k ∧ usedL C tb = firstE (fun z : Tri => useE tb z.2.1) (C.latches.drop k) k ∧ Mid w wr w.heap.size g _ tb) (fun i _ => nL - (intOf i).toNat)
  case atStart => exact ⟨0, Nat.zero_le _, rfl, rfl, HM.out⟩
  case round =>
    obtain ⟨k, hk, rfl, hall, hmid⟩ := hrel
    have HHL := Lib.hid hall
    have HMM := Lib.hid hmid
    clear hall hmid
    obtain ⟨c0, c1, c2, c3, c4, c5, c6, c7, c8, c9, c10⟩ := rbox_of HMM.out.box
    by_cases hlt : k < nL
    · have hx := List.getElem?_eq_getElem (l := C.latches) (i := k) (by rw [HNL.out]; exact hlt)
      generalize C.latches[k]'(by rw [HNL.out]; exact hlt) = x at hx
      obtain ⟨b, off, rfl, hb, hcell⟩ := HL.out k x hx
      have HX := Lib.hid hx
      have hxo := (HOK.out.l x (List.mem_of_getElem? HX.out)).2.1
      clear hx
      obtain ⟨x0, x1, x2⟩ := x
      have h1 := hcell 1 _ rfl
      simp only [← Nat.add_assoc] at h1
      have HCELL := Lib.hid (fun (wx : World) (hx : Below w.heap.size w wx) => (hx.cell (p := ⟨b, off + k * 3 + 1, none⟩) hb).trans h1)
      clear hcell h1
      have hk0 : (0 : Int) ≤ (k : Int) := by omega
      have hk1 : (k : Int) < (nL : Int) := by omega
      obtain ⟨u, hu⟩ : ∃ u, useE tb x1 = u := ⟨_, rfl⟩
      have HU := Lib.hid hu
      clear hu
      by_cases h00 : u = 0
      · subst h00
        go_wp2
        refine wp_region_quiet (C := fun wz => Mid w wz w.heap.size g #[.int .i64 m, Vi, .slice (some ⟨b, off, none⟩) nL cL, .slice AO nO cO, .slice AB nB cB, .slice AC nC cC, .slice AJ nJ cJ, Vf, .slice AA nA cA, Vs, Vt] tb) (by kernel_rfl) (by kernel_rfl) HMM.out.drew ?_
        simp only
        repeat
          first
            | go_big_quiet_skip
            | (refine wpQuiet_step (fun K hK => ?_)
               rw [if_pos (by rfl)]
               unfold Oper.quiet
               apply Exists.intro
               refine And.intro (fun wx hWx => ?_) (hK _ ?_)
               · obtain ⟨c0, c1, c2, c3, c4, c5, c6, c7, c8, c9, c10⟩ := rbox_of hWx.box
                 have h1 := HCELL.out wx hWx.below
                 first
                   | (go_simp; exact rfl)
                   | (go_simp; go_at_call 133; refine (HUSE.out wx x1 hxo hWx.tab).mono ?_; rw [HU.out]; rintro e w' ⟨rfl, hb'⟩; exact ⟨rfl, hWx.on hb'⟩)
               clear hK K
               try simp only [Act.put, List.setIfInBounds_toArray, List.set_cons_zero, List.set_cons_succ])
        refine wpQuiet_nil ?_
        intro w5 hw5
        have HW5 := Lib.hid hw5
        clear hw5
        go_wp2
        go_roundw
        case rel => first | exact ⟨k + 1, by omega, by go_num, by rw [HHL.out]; exact firstE_step HX.out HU.out, HW5.out⟩ | ((repeat apply Exists.intro); exact ⟨⟨k + 1, by omega, by go_num, by rw [HHL.out]; exact firstE_step HX.out HU.out, HW5.out⟩, rfl⟩)
        case measure => simp [intOf]; omega
      · have hq : (u == 0) = false := by simpa using h00
        have hp : (u != 0) = true := by simpa using h00
        have H00 := Lib.hid h00
        clear h00
        go_wp2
        refine wp_region_quiet (C := fun wz => Mid w wz w.heap.size g #[.int .i64 m, Vi, .slice (some ⟨b, off, none⟩) nL cL, .slice AO nO cO, .slice AB nB cB, .slice AC nC cC, .slice AJ nJ cJ, Vf, .slice AA nA cA, Vs, Vt] tb) (by kernel_rfl) (by kernel_rfl) HMM.out.drew ?_
        simp only
        repeat
          first
            | go_big_quiet_skip
            | (refine wpQuiet_step (fun K hK => ?_)
               rw [if_pos (by rfl)]
               unfold Oper.quiet
               apply Exists.intro
               refine And.intro (fun wx hWx => ?_) (hK _ ?_)
               · obtain ⟨c0, c1, c2, c3, c4, c5, c6, c7, c8, c9, c10⟩ := rbox_of hWx.box
                 have h1 := HCELL.out wx hWx.below
                 first
                   | (go_simp; exact rfl)
                   | (go_simp; go_at_call 133; refine (HUSE.out wx x1 hxo hWx.tab).mono ?_; rw [HU.out]; rintro e w' ⟨rfl, hb'⟩; exact ⟨rfl, hWx.on hb'⟩)
               clear hK K
               try simp only [Act.put, List.setIfInBounds_toArray, List.set_cons_zero, List.set_cons_succ])
        refine wpQuiet_nil ?_
        intro w5 hw5
        have HW5 := Lib.hid hw5
        clear hw5
        go_wp2
        go_ret2
        have hs := firstE_stop (f := fun z : Tri => useE tb z.2.1) HX.out (by simp only [HU.out]; exact H00.out)
        simp only [HU.out] at hs
        have hfin := HR.out.symm.trans (thenE_stop (HHL.out.trans hs) H00.out)
        exact ⟨ret_used hfin, HW5.out.below⟩
    · have : k = nL := by omega
      subst this
      have HEL := Lib.hid (HHL.out.trans (firstE_end (by rw [HNL.out]; exact Nat.le_refl _)))
      clear HHL
      go_wp2
      clear c0 c1 c2 c3 c4 c5 c6 c7 c8 c9 c10
      have HM2 := HMM
      have HBA : Hid (Blk (wr.alloc (.cells #[.slice AO nO cO, .slice AB nB cB, .slice AC nC cC] 150)) wr.heap.size 150 #[.slice AO nO cO, .slice AB nB cB, .slice AC nC cC]) := Lib.hid (Blk.new _ _ _)
      have HM3 := Lib.hid (HM2.out.on ((Below.refl wr.heap.size wr).alloc (Nat.le_refl _) (.cells #[.slice AO nO cO, .slice AB nB cB, .slice AC nC cC] 150)))
      generalize hga : wr.heap.size = ga at *
      clear HMM HM2 hga
      go_loopw [9] (fun i wr => ∃ j : Nat, j ≤ 3 ∧ i = .int .i64 j ∧ (0 < j → ∃ p, usedI C.outputs tb = (p, 0)) ∧ (1 < j → ∃ p, usedI C.bads tb = (p, 0)) ∧ (2 < j → ∃ p, usedI C.constraints tb = (p, 0)) ∧ Mid w wr w.heap.size g _ tb ∧ Blk wr ga 150 #[.slice AO nO cO, .slice AB nB cB, .slice AC nC cC]) (fun i _ => 3 - (intOf i).toNat)
      case atStart => exact ⟨0, Nat.zero_le _, rfl, fun h => by omega, fun h => by omega, fun h => by omega, HM3.out, HBA.out⟩
      case round =>
        obtain ⟨j, hj, rfl, hO, hB, hC, hmid, hba⟩ := hrel
        have hO := Lib.hid hO
        have hB := Lib.hid hB
        have hC := Lib.hid hC
        clear HM3 HBA
        have HMM := Lib.hid hmid
        have HBA := Lib.hid hba
        clear hmid hba
        have hk4 : j = 0 ∨ j = 1 ∨ j = 2 ∨ j = 3 := by omega
        rcases hk4 with rfl | rfl | rfl | rfl
        · obtain ⟨p, q, hpq⟩ : ∃ p q, usedI C.outputs tb = (p, q) := ⟨_, _, rfl⟩
          have HP3 := Lib.hid hpq
          clear hpq
          by_cases hq0 : q = 0
          · subst hq0
            go_wp2
            refine wp_region_quiet (C := fun wz => Mid w wz w.heap.size g #[.int .i64 m, Vi, .slice AL k cL, .slice AO nO cO, .slice AB nB cB, .slice AC nC cC, .slice AJ nJ cJ, Vf, .slice AA nA cA, Vs, Vt] tb ∧ Blk wz ga 150 #[.slice AO nO cO, .slice AB nB cB, .slice AC nC cC]) (by kernel_rfl) (by kernel_rfl) ⟨HMM.out.drew, HBA.out.drew⟩ ?_
            simp only
            repeat
              first
                | go_big_quiet_skip
                | (refine wpQuiet_step (fun K hK => ?_)
                   rw [if_pos (by rfl)]
                   unfold Oper.quiet
                   apply Exists.intro
                   refine And.intro (fun wx hWx => ?_) (hK _ ?_)
                   · obtain ⟨c0, c1, c2, c3, c4, c5, c6, c7, c8, c9, c10⟩ := rbox_of hWx.1.box
                     have d0 := hWx.2.cell 0
                     have d1 := hWx.2.cell 1
                     have d2 := hWx.2.cell 2
                     simp only [List.getElem?_toArray, List.getElem?_cons_zero, List.getElem?_cons_succ] at d0 d1 d2
                     first
                       | (go_simp; exact rfl)
                       | (go_simp; go_at_call 134; refine (HALL.out wx _ C.outputs p _ HP3.out hWx.1.tab (HINX.out wx hWx.1.below).o HOK.out.o).mono ?_; rintro e w' ⟨rfl, hb'⟩; exact ⟨rfl, hWx.1.on hb', hWx.2.below hb' hWx.2.lt⟩)
                   clear hK K
                   try simp only [Act.put, List.setIfInBounds_toArray, List.set_cons_zero, List.set_cons_succ])
            refine wpQuiet_nil ?_
            intro w5 hw5
            have HW5 := Lib.hid hw5
            clear hw5
            go_wp2
            go_roundw
            case rel => first | exact ⟨1, by omega, by go_num, (fun h => by first | exact ⟨_, HP3.out⟩ | exact hO.out (by omega) | omega), (fun h => by first | exact ⟨_, HP3.out⟩ | exact hB.out (by omega) | omega), (fun h => by first | exact ⟨_, HP3.out⟩ | exact hC.out (by omega) | omega), HW5.out.1, HW5.out.2⟩ | ((repeat apply Exists.intro); exact ⟨⟨1, by omega, by go_num, (fun h => by first | exact ⟨_, HP3.out⟩ | exact hO.out (by omega) | omega), (fun h => by first | exact ⟨_, HP3.out⟩ | exact hB.out (by omega) | omega), (fun h => by first | exact ⟨_, HP3.out⟩ | exact hC.out (by omega) | omega), HW5.out.1, HW5.out.2⟩, rfl⟩)
            case measure => simp [intOf]
          · have hq1 : (q == 0) = false := by simpa using hq0
            have hq2 : (q != 0) = true := by simpa using hq0
            have HQ := Lib.hid hq0
            clear hq0
            go_wp2
            refine wp_region_quiet (C := fun wz => Mid w wz w.heap.size g #[.int .i64 m, Vi, .slice AL k cL, .slice AO nO cO, .slice AB nB cB, .slice AC nC cC, .slice AJ nJ cJ, Vf, .slice AA nA cA, Vs, Vt] tb ∧ Blk wz ga 150 #[.slice AO nO cO, .slice AB nB cB, .slice AC nC cC]) (by kernel_rfl) (by kernel_rfl) ⟨HMM.out.drew, HBA.out.drew⟩ ?_
            simp only
            repeat
              first
                | go_big_quiet_skip
                | (refine wpQuiet_step (fun K hK => ?_)
                   rw [if_pos (by rfl)]
                   unfold Oper.quiet
                   apply Exists.intro
                   refine And.intro (fun wx hWx => ?_) (hK _ ?_)
                   · obtain ⟨c0, c1, c2, c3, c4, c5, c6, c7, c8, c9, c10⟩ := rbox_of hWx.1.box
                     have d0 := hWx.2.cell 0
                     have d1 := hWx.2.cell 1
                     have d2 := hWx.2.cell 2
                     simp only [List.getElem?_toArray, List.getElem?_cons_zero, List.getElem?_cons_succ] at d0 d1 d2
                     first
                       | (go_simp; exact rfl)
                       | (go_simp; go_at_call 134; refine (HALL.out wx _ C.outputs p _ HP3.out hWx.1.tab (HINX.out wx hWx.1.below).o HOK.out.o).mono ?_; rintro e w' ⟨rfl, hb'⟩; exact ⟨rfl, hWx.1.on hb', hWx.2.below hb' hWx.2.lt⟩)
                   clear hK K
                   try simp only [Act.put, List.setIfInBounds_toArray, List.set_cons_zero, List.set_cons_succ])
            refine wpQuiet_nil ?_
            intro w5 hw5
            have HW5 := Lib.hid hw5
            clear hw5
            go_wp2
            go_ret2
            have hfin := HR.out.symm.trans (thenE_on HEL.out rfl (thenE_stop HP3.out HQ.out))
            exact ⟨ret_used hfin, HW5.out.1.below⟩
        · obtain ⟨p, q, hpq⟩ : ∃ p q, usedI C.bads tb = (p, q) := ⟨_, _, rfl⟩
          have HP3 := Lib.hid hpq
          clear hpq
          by_cases hq0 : q = 0
          · subst hq0
            go_wp2
            refine wp_region_quiet (C := fun wz => Mid w wz w.heap.size g #[.int .i64 m, Vi, .slice AL k cL, .slice AO nO cO, .slice AB nB cB, .slice AC nC cC, .slice AJ nJ cJ, Vf, .slice AA nA cA, Vs, Vt] tb ∧ Blk wz ga 150 #[.slice AO nO cO, .slice AB nB cB, .slice AC nC cC]) (by kernel_rfl) (by kernel_rfl) ⟨HMM.out.drew, HBA.out.drew⟩ ?_
            simp only
            repeat
              first
                | go_big_quiet_skip
                | (refine wpQuiet_step (fun K hK => ?_)
                   rw [if_pos (by rfl)]
                   unfold Oper.quiet
                   apply Exists.intro
                   refine And.intro (fun wx hWx => ?_) (hK _ ?_)
                   · obtain ⟨c0, c1, c2, c3, c4, c5, c6, c7, c8, c9, c10⟩ := rbox_of hWx.1.box
                     have d0 := hWx.2.cell 0
                     have d1 := hWx.2.cell 1
                     have d2 := hWx.2.cell 2
                     simp only [List.getElem?_toArray, List.getElem?_cons_zero, List.getElem?_cons_succ] at d0 d1 d2
                     first
                       | (go_simp; exact rfl)
                       | (go_simp; go_at_call 134; refine (HALL.out wx _ C.bads p _ HP3.out hWx.1.tab (HINX.out wx hWx.1.below).b HOK.out.b).mono ?_; rintro e w' ⟨rfl, hb'⟩; exact ⟨rfl, hWx.1.on hb', hWx.2.below hb' hWx.2.lt⟩)
                   clear hK K
                   try simp only [Act.put, List.setIfInBounds_toArray, List.set_cons_zero, List.set_cons_succ])
            refine wpQuiet_nil ?_
            intro w5 hw5
            have HW5 := Lib.hid hw5
            clear hw5
            go_wp2
            go_roundw
            case rel => first | exact ⟨2, by omega, by go_num, (fun h => by first | exact ⟨_, HP3.out⟩ | exact hO.out (by omega) | omega), (fun h => by first | exact ⟨_, HP3.out⟩ | exact hB.out (by omega) | omega), (fun h => by first | exact ⟨_, HP3.out⟩ | exact hC.out (by omega) | omega), HW5.out.1, HW5.out.2⟩ | ((repeat apply Exists.intro); exact ⟨⟨2, by omega, by go_num, (fun h => by first | exact ⟨_, HP3.out⟩ | exact hO.out (by omega) | omega), (fun h => by first | exact ⟨_, HP3.out⟩ | exact hB.out (by omega) | omega), (fun h => by first | exact ⟨_, HP3.out⟩ | exact hC.out (by omega) | omega), HW5.out.1, HW5.out.2⟩, rfl⟩)
            case measure => simp [intOf]
          · have hq1 : (q == 0) = false := by simpa using hq0
            have hq2 : (q != 0) = true := by simpa using hq0
            have HQ := Lib.hid hq0
            clear hq0
            obtain ⟨pO, eO⟩ := hO.out (by omega)
            have HEO := Lib.hid eO
            clear eO
            go_wp2
            refine wp_region_quiet (C := fun wz => Mid w wz w.heap.size g #[.int .i64 m, Vi, .slice AL k cL, .slice AO nO cO, .slice AB nB cB, .slice AC nC cC, .slice AJ nJ cJ, Vf, .slice AA nA cA, Vs, Vt] tb ∧ Blk wz ga 150 #[.slice AO nO cO, .slice AB nB cB, .slice AC nC cC]) (by kernel_rfl) (by kernel_rfl) ⟨HMM.out.drew, HBA.out.drew⟩ ?_
            simp only
            repeat
              first
                | go_big_quiet_skip
                | (refine wpQuiet_step (fun K hK => ?_)
                   rw [if_pos (by rfl)]
                   unfold Oper.quiet
                   apply Exists.intro
                   refine And.intro (fun wx hWx => ?_) (hK _ ?_)
                   · obtain ⟨c0, c1, c2, c3, c4, c5, c6, c7, c8, c9, c10⟩ := rbox_of hWx.1.box
                     have d0 := hWx.2.cell 0
                     have d1 := hWx.2.cell 1
                     have d2 := hWx.2.cell 2
                     simp only [List.getElem?_toArray, List.getElem?_cons_zero, List.getElem?_cons_succ] at d0 d1 d2
                     first
                       | (go_simp; exact rfl)
                       | (go_simp; go_at_call 134; refine (HALL.out wx _ C.bads p _ HP3.out hWx.1.tab (HINX.out wx hWx.1.below).b HOK.out.b).mono ?_; rintro e w' ⟨rfl, hb'⟩; exact ⟨rfl, hWx.1.on hb', hWx.2.below hb' hWx.2.lt⟩)
                   clear hK K
                   try simp only [Act.put, List.setIfInBounds_toArray, List.set_cons_zero, List.set_cons_succ])
            refine wpQuiet_nil ?_
            intro w5 hw5
            have HW5 := Lib.hid hw5
            clear hw5
            go_wp2
            go_ret2
            have hfin := HR.out.symm.trans (thenE_on HEL.out rfl (thenE_on HEO.out rfl (thenE_stop HP3.out HQ.out)))
            exact ⟨ret_used hfin, HW5.out.1.below⟩
        · obtain ⟨p, q, hpq⟩ : ∃ p q, usedI C.constraints tb = (p, q) := ⟨_, _, rfl⟩
          have HP3 := Lib.hid hpq
          clear hpq
          by_cases hq0 : q = 0
          · subst hq0
            go_wp2
            refine wp_region_quiet (C := fun wz => Mid w wz w.heap.size g #[.int .i64 m, Vi, .slice AL k cL, .slice AO nO cO, .slice AB nB cB, .slice AC nC cC, .slice AJ nJ cJ, Vf, .slice AA nA cA, Vs, Vt] tb ∧ Blk wz ga 150 #[.slice AO nO cO, .slice AB nB cB, .slice AC nC cC]) (by kernel_rfl) (by kernel_rfl) ⟨HMM.out.drew, HBA.out.drew⟩ ?_
            simp only
            repeat
              first
                | go_big_quiet_skip
                | (refine wpQuiet_step (fun K hK => ?_)
                   rw [if_pos (by rfl)]
                   unfold Oper.quiet
                   apply Exists.intro
                   refine And.intro (fun wx hWx => ?_) (hK _ ?_)
                   · obtain ⟨c0, c1, c2, c3, c4, c5, c6, c7, c8, c9, c10⟩ := rbox_of hWx.1.box
                     have d0 := hWx.2.cell 0
                     have d1 := hWx.2.cell 1
                     have d2 := hWx.2.cell 2
                     simp only [List.getElem?_toArray, List.getElem?_cons_zero, List.getElem?_cons_succ] at d0 d1 d2
                     first
                       | (go_simp; exact rfl)
                       | (go_simp; go_at_call 134; refine (HALL.out wx _ C.constraints p _ HP3.out hWx.1.tab (HINX.out wx hWx.1.below).c HOK.out.c).mono ?_; rintro e w' ⟨rfl, hb'⟩; exact ⟨rfl, hWx.1.on hb', hWx.2.below hb' hWx.2.lt⟩)
                   clear hK K
                   try simp only [Act.put, List.setIfInBounds_toArray, List.set_cons_zero, List.set_cons_succ])
            refine wpQuiet_nil ?_
            intro w5 hw5
            have HW5 := Lib.hid hw5
            clear hw5
            go_wp2
            go_roundw
            case rel => first | exact ⟨3, by omega, by go_num, (fun h => by first | exact ⟨_, HP3.out⟩ | exact hO.out (by omega) | omega), (fun h => by first | exact ⟨_, HP3.out⟩ | exact hB.out (by omega) | omega), (fun h => by first | exact ⟨_, HP3.out⟩ | exact hC.out (by omega) | omega), HW5.out.1, HW5.out.2⟩ | ((repeat apply Exists.intro); exact ⟨⟨3, by omega, by go_num, (fun h => by first | exact ⟨_, HP3.out⟩ | exact hO.out (by omega) | omega), (fun h => by first | exact ⟨_, HP3.out⟩ | exact hB.out (by omega) | omega), (fun h => by first | exact ⟨_, HP3.out⟩ | exact hC.out (by omega) | omega), HW5.out.1, HW5.out.2⟩, rfl⟩)
            case measure => simp [intOf]
          · have hq1 : (q == 0) = false := by simpa using hq0
            have hq2 : (q != 0) = true := by simpa using hq0
            have HQ := Lib.hid hq0
            clear hq0
            obtain ⟨pO, eO⟩ := hO.out (by omega)
            have HEO := Lib.hid eO
            clear eO
            obtain ⟨pB, eB⟩ := hB.out (by omega)
            have HEB := Lib.hid eB
            clear eB
            go_wp2
            refine wp_region_quiet (C := fun wz => Mid w wz w.heap.size g #[.int .i64 m, Vi, .slice AL k cL, .slice AO nO cO, .slice AB nB cB, .slice AC nC cC, .slice AJ nJ cJ, Vf, .slice AA nA cA, Vs, Vt] tb ∧ Blk wz ga 150 #[.slice AO nO cO, .slice AB nB cB, .slice AC nC cC]) (by kernel_rfl) (by kernel_rfl) ⟨HMM.out.drew, HBA.out.drew⟩ ?_
            simp only
            repeat
              first
                | go_big_quiet_skip
                | (refine wpQuiet_step (fun K hK => ?_)
                   rw [if_pos (by rfl)]
                   unfold Oper.quiet
                   apply Exists.intro
                   refine And.intro (fun wx hWx => ?_) (hK _ ?_)
                   · obtain ⟨c0, c1, c2, c3, c4, c5, c6, c7, c8, c9, c10⟩ := rbox_of hWx.1.box
                     have d0 := hWx.2.cell 0
                     have d1 := hWx.2.cell 1
                     have d2 := hWx.2.cell 2
                     simp only [List.getElem?_toArray, List.getElem?_cons_zero, List.getElem?_cons_succ] at d0 d1 d2
                     first
                       | (go_simp; exact rfl)
                       | (go_simp; go_at_call 134; refine (HALL.out wx _ C.constraints p _ HP3.out hWx.1.tab (HINX.out wx hWx.1.below).c HOK.out.c).mono ?_; rintro e w' ⟨rfl, hb'⟩; exact ⟨rfl, hWx.1.on hb', hWx.2.below hb' hWx.2.lt⟩)
                   clear hK K
                   try simp only [Act.put, List.setIfInBounds_toArray, List.set_cons_zero, List.set_cons_succ])
            refine wpQuiet_nil ?_
            intro w5 hw5
            have HW5 := Lib.hid hw5
            clear hw5
            go_wp2
            go_ret2
            have hfin := HR.out.symm.trans (thenE_on HEL.out rfl (thenE_on HEO.out rfl (thenE_on HEB.out rfl (thenE_stop HP3.out HQ.out))))
            exact ⟨ret_used hfin, HW5.out.1.below⟩
        · obtain ⟨pO, eO⟩ := hO.out (by omega)
          obtain ⟨pB, eB⟩ := hB.out (by omega)
          obtain ⟨pC, eC⟩ := hC.out (by omega)
          have HEO := Lib.hid eO
          have HEB := Lib.hid eB
          have HEC := Lib.hid eC
          clear eO eB eC hO hB hC HBA
          go_wp2
          have HM3 := HMM
          clear HMM
          go_loopw [12] (fun i wr => ∃ k : Nat, k ≤ nJ ∧ i = .int .i64 k ∧ usedJ C tb = firstE (fun zs => (usedI zs tb).2) (C.justice.drop k) k ∧ Mid w wr w.heap.size g _ tb) (fun i _ => nJ - (intOf i).toNat)
          case atStart => exact ⟨0, Nat.zero_le _, rfl, rfl, HM3.out⟩
          case round =>
            generalize k = k0 at *
            obtain ⟨k, hk, rfl, hall, hmid⟩ := hrel
            have HHJ := Lib.hid hall
            have HMM := Lib.hid hmid
            clear hall hmid HM3
            obtain ⟨c0, c1, c2, c3, c4, c5, c6, c7, c8, c9, c10⟩ := rbox_of HMM.out.box
            by_cases hlt : k < nJ
            · have hx := List.getElem?_eq_getElem (l := C.justice) (i := k) (by rw [HNJ.out]; exact hlt)
              generalize C.justice[k]'(by rw [HNJ.out]; exact hlt) = x at hx
              obtain ⟨b, off, u, rfl, hb, hcell, hrow⟩ := HJ.out k x hx
              have HX := Lib.hid hx
              have HXO := Lib.hid (HOK.out.j x (List.mem_of_getElem? HX.out))
              have HROW := Lib.hid (fun (wx : World) (hx : Below w.heap.size w wx) => hrow.below hx)
              have HCELL := Lib.hid (fun (wx : World) (hx : Below w.heap.size w wx) => (hx.cell (p := ⟨b, off + k, none⟩) hb).trans hcell)
              clear hx hrow hcell
              have hk0 : (0 : Int) ≤ (k : Int) := by omega
              have hk1 : (k : Int) < (nJ : Int) := by omega
              obtain ⟨p, q, hpq⟩ : ∃ p q, usedI x tb = (p, q) := ⟨_, _, rfl⟩
              have HP3 := Lib.hid hpq
              clear hpq
              by_cases hq0 : q = 0
              · subst hq0
                go_wp2
                refine wp_region_quiet (C := fun wz => Mid w wz w.heap.size g #[.int .i64 m, Vi, .slice AL k0 cL, .slice AO nO cO, .slice AB nB cB, .slice AC nC cC, .slice (some ⟨b, off, none⟩) nJ cJ, Vf, .slice AA nA cA, Vs, Vt] tb) (by kernel_rfl) (by kernel_rfl) HMM.out.drew ?_
                simp only
                repeat
                  first
                    | go_big_quiet_skip
                    | (refine wpQuiet_step (fun K hK => ?_)
                       rw [if_pos (by rfl)]
                       unfold Oper.quiet
                       apply Exists.intro
                       refine And.intro (fun wx hWx => ?_) (hK _ ?_)
                       · obtain ⟨c0, c1, c2, c3, c4, c5, c6, c7, c8, c9, c10⟩ := rbox_of hWx.box
                         have h0 := HCELL.out wx hWx.below
                         first
                           | (go_simp; exact rfl)
                           | (go_simp; go_at_call 134; refine (HALL.out wx _ x p _ HP3.out hWx.tab (HROW.out wx hWx.below) HXO.out).mono ?_; rintro e w' ⟨rfl, hb'⟩; exact ⟨rfl, hWx.on hb'⟩)
                       clear hK K
                       try simp only [Act.put, List.setIfInBounds_toArray, List.set_cons_zero, List.set_cons_succ])
                refine wpQuiet_nil ?_
                intro w5 hw5
                have HW5 := Lib.hid hw5
                clear hw5
                go_wp2
                go_roundw
                case rel => first | exact ⟨k + 1, by omega, by go_num, by rw [HHJ.out]; exact firstE_step HX.out (by simp only [HP3.out]), HW5.out⟩ | ((repeat apply Exists.intro); exact ⟨⟨k + 1, by omega, by go_num, by rw [HHJ.out]; exact firstE_step HX.out (by simp only [HP3.out]), HW5.out⟩, rfl⟩)
                case measure => simp [intOf]; omega
              · have hq1 : (q == 0) = false := by simpa using hq0
                have hq2 : (q != 0) = true := by simpa using hq0
                have HQ := Lib.hid hq0
                clear hq0
                go_wp2
                refine wp_region_quiet (C := fun wz => Mid w wz w.heap.size g #[.int .i64 m, Vi, .slice AL k0 cL, .slice AO nO cO, .slice AB nB cB, .slice AC nC cC, .slice (some ⟨b, off, none⟩) nJ cJ, Vf, .slice AA nA cA, Vs, Vt] tb) (by kernel_rfl) (by kernel_rfl) HMM.out.drew ?_
                simp only
                repeat
                  first
                    | go_big_quiet_skip
                    | (refine wpQuiet_step (fun K hK => ?_)
                       rw [if_pos (by rfl)]
                       unfold Oper.quiet
                       apply Exists.intro
                       refine And.intro (fun wx hWx => ?_) (hK _ ?_)
                       · obtain ⟨c0, c1, c2, c3, c4, c5, c6, c7, c8, c9, c10⟩ := rbox_of hWx.box
                         have h0 := HCELL.out wx hWx.below
                         first
                           | (go_simp; exact rfl)
                           | (go_simp; go_at_call 134; refine (HALL.out wx _ x p _ HP3.out hWx.tab (HROW.out wx hWx.below) HXO.out).mono ?_; rintro e w' ⟨rfl, hb'⟩; exact ⟨rfl, hWx.on hb'⟩)
                       clear hK K
                       try simp only [Act.put, List.setIfInBounds_toArray, List.set_cons_zero, List.set_cons_succ])
                refine wpQuiet_nil ?_
                intro w5 hw5
                have HW5 := Lib.hid hw5
                clear hw5
                go_wp2
                go_ret2
                have hs := firstE_stop (f := fun zs => (usedI zs tb).2) HX.out (by simp only [HP3.out]; exact HQ.out)
                simp only [HP3.out] at hs
                have hfin := HR.out.symm.trans (thenE_on HEL.out rfl (thenE_on HEO.out rfl (thenE_on HEB.out rfl (thenE_on HEC.out rfl (thenE_stop (HHJ.out.trans hs) HQ.out)))))
                exact ⟨ret_used hfin, HW5.out.below⟩
            · have : k = nJ := by omega
              subst this
              have HEJ := Lib.hid (HHJ.out.trans (firstE_end (by rw [HNJ.out]; exact Nat.le_refl _)))
              clear HHJ
              obtain ⟨pF, qF, hpF⟩ : ∃ p q, usedI C.fairness tb = (p, q) := ⟨_, _, rfl⟩
              have HPF := Lib.hid hpF
              clear hpF
              by_cases hq0 : qF = 0
              · subst hq0
                go_wp2_with (go_at_call 134; refine (HALL.out wr _ C.fairness pF 0 HPF.out HMM.out.tab (HINX.out wr HMM.out.below).f HOK.out.f).mono ?_; rintro e w1 ⟨rfl, hb1⟩; have HM1 := Lib.hid (HMM.out.on hb1); clear hb1 c0 c1 c2 c3 c4 c5 c6 c7 c8 c9 c10)
                clear HMM
                go_loopw [17] (fun i wr => ∃ q : Nat, q ≤ nA ∧ i = .int .i64 q ∧ usedA C tb = firstE (gateE tb) (C.ands.drop q) q ∧ Mid w wr w.heap.size g _ tb) (fun i _ => nA - (intOf i).toNat)
                case atStart => exact ⟨0, Nat.zero_le _, rfl, rfl, HM1.out⟩
                case round =>
                  generalize k = nJ at *
                  obtain ⟨k, hk, rfl, hall, hmid⟩ := hrel
                  have HHA := Lib.hid hall
                  have HMM := Lib.hid hmid
                  clear hall hmid HM1
                  obtain ⟨c0, c1, c2, c3, c4, c5, c6, c7, c8, c9, c10⟩ := rbox_of HMM.out.box
                  by_cases hlt : k < nA
                  · have hx := List.getElem?_eq_getElem (l := C.ands) (i := k) (by rw [HNA.out]; exact hlt)
                    generalize C.ands[k]'(by rw [HNA.out]; exact hlt) = x at hx
                    obtain ⟨b, off, rfl, hb, hcell⟩ := HA.out k x hx
                    have HX := Lib.hid hx
                    have hxo := HOK.out.a x (List.mem_of_getElem? HX.out)
                    clear hx
                    obtain ⟨x0, x1, x2⟩ := x
                    have h1 := hcell 1 _ rfl
                    have h2 := hcell 2 _ rfl
                    simp only [← Nat.add_assoc] at h1 h2
                    have hbw := HMM.out.below
                    have HCELL : Hid (wr.cell? ⟨b, off + k * 3 + 1, none⟩ = some (.int .i64 x1) ∧ wr.cell? ⟨b, off + k * 3 + 2, none⟩ = some (.int .i64 x2)) := Lib.hid ⟨(hbw.cell (p := ⟨b, off + k * 3 + 1, none⟩) hb).trans h1, (hbw.cell (p := ⟨b, off + k * 3 + 2, none⟩) hb).trans h2⟩
                    have HSK : Hid (∀ wx : World, Mid w wx w.heap.size g #[.int .i64 m, Vi, .slice AL k0 cL, .slice AO nO cO, .slice AB nB cB, .slice AC nC cC, .slice AJ nJ cJ, Vf, .slice (some ⟨b, off, none⟩) nA cA, Vs, Vt] tb → (fun w' => w'.cell? ⟨w.heap.size, 0, none⟩ = some (.int .i64 m) ∧ w'.cell? ⟨w.heap.size, 1, none⟩ = some (Vi) ∧ w'.cell? ⟨w.heap.size, 2, none⟩ = some (.slice AL k0 cL) ∧ w'.cell? ⟨w.heap.size, 3, none⟩ = some (.slice AO nO cO) ∧ w'.cell? ⟨w.heap.size, 4, none⟩ = some (.slice AB nB cB) ∧ w'.cell? ⟨w.heap.size, 5, none⟩ = some (.slice AC nC cC) ∧ w'.cell? ⟨w.heap.size, 6, none⟩ = some (.slice AJ nJ cJ) ∧ w'.cell? ⟨w.heap.size, 7, none⟩ = some (Vf) ∧ w'.cell? ⟨w.heap.size, 8, none⟩ = some (.slice (some ⟨b, off, none⟩) nA cA) ∧ w'.cell? ⟨w.heap.size, 9, none⟩ = some (Vs) ∧ w'.cell? ⟨w.heap.size, 10, none⟩ = some (Vt) ∧ w'.cell? ⟨b, off + k * 3 + 1, none⟩ = some (.int .i64 x1) ∧ w'.cell? ⟨b, off + k * 3 + 2, none⟩ = some (.int .i64 x2)) wx) := Lib.hid (fun wx hx => by
                      obtain ⟨c0, c1, c2, c3, c4, c5, c6, c7, c8, c9, c10⟩ := rbox_of hx.box
                      exact ⟨c0, c1, c2, c3, c4, c5, c6, c7, c8, c9, c10, (hx.below.cell (p := ⟨b, off + k * 3 + 1, none⟩) hb).trans h1, (hx.below.cell (p := ⟨b, off + k * 3 + 2, none⟩) hb).trans h2⟩)
                    have hbz := Nat.lt_of_lt_of_le hb hbw.size
                    clear hcell h1 h2 hbw
                    have hk0 : (0 : Int) ≤ (k : Int) := by omega
                    have hk1 : (k : Int) < (nA : Int) := by omega
                    obtain ⟨e1, e2⟩ := HCELL.out
                    obtain ⟨p, q, hpq⟩ : ∃ p q, usedI [x1, x2] tb = (p, q) := ⟨_, _, rfl⟩
                    have HGE : Hid (gateE tb (x0, x1, x2) = q) := Lib.hid (by rw [← gate_two]; show (usedI [x1, x2] tb).2 = q; rw [hpq])
                    have HP3 := Lib.hid hpq
                    clear hpq
                    have HMB := Lib.hid (HMM.out.on ((Below.refl wr.heap.size wr).alloc (Nat.le_refl _) (.cells #[.int .i64 x1, .int .i64 x2] 3)))
                    have HROW := Lib.hid (two_row wr x1 x2)
                    have hxi : ∀ z ∈ [x1, x2], I64 z := by
                      intro z hz
                      simp only [List.mem_cons, List.not_mem_nil, or_false] at hz
                      rcases hz with rfl | rfl
                      · exact hxo.2.1
                      · exact hxo.2.2
                    have HXI := Lib.hid hxi
                    clear hxi
                    by_cases hq0 : q = 0
                    · subst hq0
                      go_wp2
                      go_region_held3 (fun w' => w'.cell? ⟨w.heap.size, 0, none⟩ = some (.int .i64 m) ∧ w'.cell? ⟨w.heap.size, 1, none⟩ = some (Vi) ∧ w'.cell? ⟨w.heap.size, 2, none⟩ = some (.slice AL k0 cL) ∧ w'.cell? ⟨w.heap.size, 3, none⟩ = some (.slice AO nO cO) ∧ w'.cell? ⟨w.heap.size, 4, none⟩ = some (.slice AB nB cB) ∧ w'.cell? ⟨w.heap.size, 5, none⟩ = some (.slice AC nC cC) ∧ w'.cell? ⟨w.heap.size, 6, none⟩ = some (.slice AJ nJ cJ) ∧ w'.cell? ⟨w.heap.size, 7, none⟩ = some (Vf) ∧ w'.cell? ⟨w.heap.size, 8, none⟩ = some (.slice (some ⟨b, off, none⟩) nA cA) ∧ w'.cell? ⟨w.heap.size, 9, none⟩ = some (Vs) ∧ w'.cell? ⟨w.heap.size, 10, none⟩ = some (Vt) ∧ w'.cell? ⟨b, off + k * 3 + 1, none⟩ = some (.int .i64 x1) ∧ w'.cell? ⟨b, off + k * 3 + 2, none⟩ = some (.int .i64 x2)) (first | exact HS5.out | exact ⟨c0, c1, c2, c3, c4, c5, c6, c7, c8, c9, c10, e1, e2⟩ | go_keep)
                        (first
                          | (go_at_call 134; refine (HALL.out _ _ [x1, x2] p 0 HP3.out (show Tab _ g tb from Blk.drew HMB.out.tab) HROW.out HXI.out).mono ?_; rintro e w1 ⟨rfl, hb1⟩; have HM5 := Lib.hid (HMB.out.drew.on hb1); have HS5 := Lib.hid (HSK.out w1 HM5.out); clear hb1))
                      go_wp2
                      go_roundw
                      case rel => first | exact ⟨k + 1, by omega, by go_num, by rw [HHA.out]; exact firstE_step HX.out HGE.out, HM5.out⟩ | ((repeat apply Exists.intro); exact ⟨⟨k + 1, by omega, by go_num, by rw [HHA.out]; exact firstE_step HX.out HGE.out, HM5.out⟩, rfl⟩)
                      case measure => simp [intOf]; omega
                    · have hq1 : (q == 0) = false := by simpa using hq0
                      have hq2 : (q != 0) = true := by simpa using hq0
                      have HQ := Lib.hid hq0
                      clear hq0
                      go_wp2
                      go_region_held3 (fun w' => w'.cell? ⟨w.heap.size, 0, none⟩ = some (.int .i64 m) ∧ w'.cell? ⟨w.heap.size, 1, none⟩ = some (Vi) ∧ w'.cell? ⟨w.heap.size, 2, none⟩ = some (.slice AL k0 cL) ∧ w'.cell? ⟨w.heap.size, 3, none⟩ = some (.slice AO nO cO) ∧ w'.cell? ⟨w.heap.size, 4, none⟩ = some (.slice AB nB cB) ∧ w'.cell? ⟨w.heap.size, 5, none⟩ = some (.slice AC nC cC) ∧ w'.cell? ⟨w.heap.size, 6, none⟩ = some (.slice AJ nJ cJ) ∧ w'.cell? ⟨w.heap.size, 7, none⟩ = some (Vf) ∧ w'.cell? ⟨w.heap.size, 8, none⟩ = some (.slice (some ⟨b, off, none⟩) nA cA) ∧ w'.cell? ⟨w.heap.size, 9, none⟩ = some (Vs) ∧ w'.cell? ⟨w.heap.size, 10, none⟩ = some (Vt) ∧ w'.cell? ⟨b, off + k * 3 + 1, none⟩ = some (.int .i64 x1) ∧ w'.cell? ⟨b, off + k * 3 + 2, none⟩ = some (.int .i64 x2)) (first | exact HS5.out | exact ⟨c0, c1, c2, c3, c4, c5, c6, c7, c8, c9, c10, e1, e2⟩ | go_keep)
                        (first
                          | (go_at_call 134; refine (HALL.out _ _ [x1, x2] p q HP3.out (show Tab _ g tb from Blk.drew HMB.out.tab) HROW.out HXI.out).mono ?_; rintro e w1 ⟨rfl, hb1⟩; have HM5 := Lib.hid (HMB.out.drew.on hb1); have HS5 := Lib.hid (HSK.out w1 HM5.out); clear hb1))
                      go_wp2
                      go_ret2
                      have hs := firstE_stop (f := gateE tb) HX.out (by simp only [HGE.out]; exact HQ.out)
                      simp only [HGE.out] at hs
                      have hfin := HR.out.symm.trans (thenE_on HEL.out rfl (thenE_on HEO.out rfl (thenE_on HEB.out rfl (thenE_on HEC.out rfl (thenE_on HEJ.out rfl (thenE_on HPF.out rfl (HHA.out.trans hs)))))))
                      exact ⟨ret_used hfin, HM5.out.below⟩
                  · have : k = nA := by omega
                    subst this
                    have HEA := Lib.hid (HHA.out.trans (firstE_end (by rw [HNA.out]; exact Nat.le_refl _)))
                    go_wp2
                    go_ret2
                    have hfin := HR.out.symm.trans (thenE_on HEL.out rfl (thenE_on HEO.out rfl (thenE_on HEB.out rfl (thenE_on HEC.out rfl (thenE_on HEJ.out rfl (thenE_on HPF.out rfl HEA.out))))))
                    exact ⟨ret_used hfin, HMM.out.below⟩
              · have hq1 : (qF == 0) = false := by simpa using hq0
                have hq2 : (qF != 0) = true := by simpa using hq0
                have HQ := Lib.hid hq0
                clear hq0
                go_wp2_with (go_at_call 134; refine (HALL.out wr _ C.fairness pF qF HPF.out HMM.out.tab (HINX.out wr HMM.out.below).f HOK.out.f).mono ?_; rintro e w1 ⟨rfl, hb1⟩; have HM1 := Lib.hid (HMM.out.on hb1); clear hb1 c0 c1 c2 c3 c4 c5 c6 c7 c8 c9 c10)
                go_ret2
                have hfin := HR.out.symm.trans (thenE_on HEL.out rfl (thenE_on HEO.out rfl (thenE_on HEB.out rfl (thenE_on HEC.out rfl (thenE_on HEJ.out rfl (thenE_stop HPF.out HQ.out))))))
                exact ⟨ret_used hfin, HM1.out.below⟩
end Go.Proofs.Ytdodhbfplglbkaa

namespace Go.Proofs.Ytdodhbfplglbkaa
open Go.RowKit

/-- The variable 0 counts as defined from the beginning, or in the end. -/
theorem defE_zero_any {tb : List Bool} {l : Int} : defE (tb.set 0 true) l = defE tb l := by
  unfold defE
  rw [List.length_set]
  by_cases h : l < 2 ∨ l % 2 = 1 ∨ (tb.length : Int) ≤ l / 2
  · rw [if_pos h, if_pos h]
  · rw [if_neg h, if_neg h]
    have : (l / 2).toNat ≠ 0 := by omega
    simp only [List.getD_eq_getElem?_getD]
    rw [List.getElem?_set_ne (by omega)]
theorem defT_zero_any {tb : List Bool} {l : Int} : defT (tb.set 0 true) l = (defT tb l).set 0 true := by
  unfold defT
  rw [defE_zero_any]
  by_cases h : defE tb l = 0
  · rw [if_pos h, if_pos h]
    by_cases e : (l / 2).toNat = 0
    · rw [e]
    · exact List.set_comm _ _ (by omega)
  · rw [if_neg h, if_neg h]
theorem defAll_zero_any {α : Type} {lit bad : α → Int} : ∀ (xs : List α) (k : Nat) (tb : List Bool), defAll lit bad xs k (tb.set 0 true) = ((defAll lit bad xs k tb).1, (defAll lit bad xs k tb).2.set 0 true)
  | [], _, _ => rfl
  | x :: r, k, tb => by
    unfold defAll
    rw [defE_zero_any, defT_zero_any]
    split
    · split
      · exact defAll_zero_any r (k + 1) _
      · rfl
    · rfl
theorem defR_zero_any (C : Circ) (tb : List Bool) : defR C (tb.set 0 true) = ((defR C tb).1, (defR C tb).2.set 0 true) := by
  unfold defR defI defL defA
  rw [defAll_zero_any]
  simp only
  split
  · rw [defAll_zero_any]
    simp only
    split
    · exact defAll_zero_any _ _ _
    · rfl
  · rfl
theorem defR_tab0 (C : Circ) (m : Nat) : defR C (tab0 m) = ((defR C (List.replicate (m + 1) false)).1, (defR C (List.replicate (m + 1) false)).2.set 0 true) := defR_zero_any C _
theorem make_bools1 (n : Nat) (h : n ≤ 281474976710656) (wx : World) : (Instr.makeSlice 55 (.int .i64 (n : Int)) (.int .i64 (n : Int))).run Try.prog wx = .ok (.slice (some ⟨wx.heap.size, 0, none⟩) n n) (wx.alloc (.cells (madeCells #[Value.bool false] n) 4)) := by
  obtain ⟨i0, hi0, hz0, hz1, hz2⟩ := info_of bool_info
  have := run_make (P := Try.prog) wx 55 4 i0 (.bool false) Try.underlying55 hi0 hz0 .i64 .i64 n n (by omega) (by omega) (by rw [hz2]; omega) (by omega)
  rw [hz1] at this
  simpa [Value.cells] using this
theorem ret_rdef {k k' : IntKind} {v : Value} {r : (Int × Int) × List Bool} {a b : Int} {t : List Bool} (h : r = ((a, b), t)) : Ending.returned (.tuple #[v, .int k a, .int k' b]) = .returned (.tuple #[v, .int k r.1.1, .int k' r.1.2]) := by rw [h]

set_option maxHeartbeats 20000000 in
set_option maxRecDepth 100000 in
theorem rDefined_any (w : World) (V : CV) (C : Circ) (m : Nat) (h : C.In w V) (ok : C.Ok) (hm2 : m ≤ 16384) :
    Calls Try.prog 95 #[V.val m] w fun e w' => ∃ v, e = .returned (.tuple #[v, .int .i64 (defR C (List.replicate (m + 1) false)).1.1, .int .i64 (defR C (List.replicate (m + 1) false)).1.2]) ∧ Below w.heap.size w w' ∧
      ((defR C (List.replicate (m + 1) false)).1.2 = 0 → ∃ g, v = .slice (some ⟨g, 0, none⟩) (m + 1) (m + 1) ∧ Tab w' g ((defR C (List.replicate (m + 1) false)).2.set 0 true)) := by
  have h1 := make_bools1 (m + 1) (by omega)
  push_cast at h1
  obtain ⟨tb, htb⟩ : ∃ tb, List.replicate (m + 1) false = tb := ⟨_, rfl⟩
  have htl : tb.length = m + 1 := by rw [← htb]; simp
  have HM : Hid (Mid w ((w.alloc (.cells (V.cells m) 29)).alloc (.cells (madeCells #[Value.bool false] (m + 1)) 4)) w.heap.size (w.heap.size + 1) (V.cells m) tb) := Lib.hid (by
    refine ⟨((Below.refl w.heap.size w).alloc (Nat.le_refl _) _).alloc (by simp) _, (Blk.new w _ _).alloc _, ?_⟩
    unfold Tab
    rw [made_falses, htb]
    have := Blk.new (w.alloc (.cells (V.cells m) 29)) 4 (tb.map Value.bool).toArray
    simpa using this)
  rw [htb]
  have HTB := Lib.hid htl
  clear htb htl
  have HC := Lib.hid (fun (wx : World) (g : Nat) (tk : List Bool) (l : Int) (hl : I64 l) (hx : Tab wx g tk) (htl : tk.length = m + 1) => by
    have := rone_any wx V m g tk l hl hx htl hm2
    rw [htl] at this
    exact this)
  have hw1 : IntKind.i64.wrap ((m : Int) + 1) = (m : Int) + 1 := by simp [IntKind.wrap, IntKind.bits, IntKind.signed]; omega
  obtain ⟨Vi, Vl, Vo, Vb, Vc, Vj, Vf, Va, Vs, Vt⟩ := V
  have HI := h.i
  have HL := h.l
  have HA := h.a
  have hIl := HI.len
  have hLl := HL.len
  have hAl := HA.len
  unfold maxLen at hIl hLl hAl
  obtain ⟨AI, cI, eI, _, _, hI⟩ := HI
  obtain ⟨AL, cL, eL, _, _, hL⟩ := HL
  obtain ⟨AA, cA, eA, _, _, hA⟩ := HA
  simp only at eI eL eA
  subst eI eL eA
  have HI := Lib.hid hI
  have HL := Lib.hid hL
  have HA := Lib.hid hA
  have HOK := Lib.hid ok
  clear hI hL hA h ok
  generalize hr : defR C tb = r
  have HR := Lib.hid hr
  clear hr
  generalize hnI : C.inputs.length = nI at *
  generalize hnL : C.latches.length = nL at *
  generalize hnA : C.ands.length = nA at *
  have HNI := Lib.hid hnI
  have HNL := Lib.hid hnL
  have HNA := Lib.hid hnA
  clear hnI hnL hnA
  go_enter Try.func95, Try.ntmps95
  go_wp2
  go_loopw [6] (fun i wr => ∃ (q : Nat) (tk : List Bool), q ≤ nI ∧ i = .int .i64 q ∧ tk.length = m + 1 ∧ defI C tb = defAll (fun z : Int => z) (fun _ => 0) (C.inputs.drop q) q tk ∧ Mid w wr w.heap.size (w.heap.size + 1) _ tk) (fun i _ => nI - (intOf i).toNat)
  case atStart => exact ⟨0, tb, Nat.zero_le _, rfl, HTB.out, rfl, HM.out⟩
  case round =>
    obtain ⟨k, tk, hk, rfl, htl, hall, hmid⟩ := hrel
    have HAI := Lib.hid hall
    have HMM := Lib.hid hmid
    have HTL := Lib.hid htl
    clear hall hmid htl
    obtain ⟨c0, c1, c2, c3, c4, c5, c6, c7, c8, c9, c10⟩ := rbox_of HMM.out.box
    have hwr := HMM.out.below.size
    by_cases hlt : k < nI
    · have hx := List.getElem?_eq_getElem (l := C.inputs) (i := k) (by rw [HNI.out]; exact hlt)
      generalize C.inputs[k]'(by rw [HNI.out]; exact hlt) = x at hx
      obtain ⟨b, off, hA0, hb, hcell⟩ := HI.out k x hx
      subst hA0
      have HX := Lib.hid hx
      have hxo := HOK.out.i x (List.mem_of_getElem? HX.out)
      clear hx
      have hk0 : (0 : Int) ≤ (k : Int) := by omega
      have hk1 : (k : Int) < (nI : Int) := by omega
      have h0 := (HMM.out.below.cell (p := ⟨b, off + (k * 1 + 0), none⟩) hb).trans (hcell 0 _ rfl)
      simp only [Nat.add_zero, Nat.mul_one] at h0
      clear hcell
      by_cases hu : defE tk x = 0
      · have HU := Lib.hid hu
        clear hu
        go_wp2
        have HMD := Lib.hid HMM.out.drew
        go_still_tail 7, (by kernel_rfl)
        change wpList _ _ _ _ _ wr.drew
        generalize wr.drew = wd at *
        go_wp2_with (go_at_call 132; refine (HC.out _ (w.heap.size + 1) tk x hxo HMD.out.tab HTL.out).mono ?_; rw [HU.out]; rintro e w2 ⟨rfl, hgr, htab⟩; have HM2 := Lib.hid (HMD.out.grown (by omega) (by omega) hgr htab); clear hgr htab)
        go_roundw
        case rel => first | exact ⟨k + 1, _, by omega, by go_num, by rw [defT_len]; exact HTL.out, by rw [HAI.out]; exact defAll_step HX.out HU.out rfl, HM2.out⟩ | ((repeat apply Exists.intro); exact ⟨⟨k + 1, _, by omega, by go_num, by rw [defT_len]; exact HTL.out, by rw [HAI.out]; exact defAll_step HX.out HU.out rfl, HM2.out⟩, rfl⟩)
        case measure => simp [intOf]; omega
      · have hq : (defE tk x == 0) = false := by simpa using hu
        have hq2 : (defE tk x != 0) = true := by simpa using hu
        have HU := Lib.hid hu
        clear hu
        go_wp2
        have HMD := Lib.hid HMM.out.drew
        go_still_tail 7, (by kernel_rfl)
        change wpList _ _ _ _ _ wr.drew
        generalize wr.drew = wd at *
        go_wp2_with (go_at_call 132; refine (HC.out _ (w.heap.size + 1) tk x hxo HMD.out.tab HTL.out).mono ?_; rintro e w2 ⟨rfl, hgr, htab⟩; have HM2 := Lib.hid (HMD.out.grown (by omega) (by omega) hgr htab); clear hgr htab)
        go_ret3
        have hfin := defR_i (HAI.out.trans (defAll_stop HX.out HU.out)) HU.out
        refine ⟨_, ret_rdef (by rw [← HR.out]; exact hfin), HM2.out.below, fun h0 => ?_⟩
        rw [← HR.out, hfin] at h0
        exact absurd h0 HU.out
    · have : k = nI := by omega
      subst this
      have HEI := Lib.hid (HAI.out.trans (defAll_end (by rw [HNI.out]; exact Nat.le_refl _)))
      clear HAI
      have HMI := HMM
      have HTLI := HTL
      go_wp2
      clear HMM HTL c0 c1 c2 c3 c4 c5 c6 c7 c8 c9 c10
      generalize tk = tI at *
      generalize k = nI at *
      go_loopw [8] (fun i wr => ∃ (q : Nat) (tk : List Bool), q ≤ nL ∧ i = .int .i64 q ∧ tk.length = m + 1 ∧ defL C tI = defAll (fun z : Tri => z.1) resetE (C.latches.drop q) q tk ∧ Mid w wr w.heap.size (w.heap.size + 1) _ tk) (fun i _ => nL - (intOf i).toNat)
      case atStart => exact ⟨0, tI, Nat.zero_le _, rfl, HTLI.out, rfl, HMI.out⟩
      case round =>
        obtain ⟨k, tk, hk, rfl, htl, hall, hmid⟩ := hrel
        have HAL := Lib.hid hall
        have HMM := Lib.hid hmid
        have HTL := Lib.hid htl
        clear hall hmid htl
        obtain ⟨c0, c1, c2, c3, c4, c5, c6, c7, c8, c9, c10⟩ := rbox_of HMM.out.box
        have hwr := HMM.out.below.size
        by_cases hlt : k < nL
        · have hx := List.getElem?_eq_getElem (l := C.latches) (i := k) (by rw [HNL.out]; exact hlt)
          generalize C.latches[k]'(by rw [HNL.out]; exact hlt) = x at hx
          obtain ⟨b, off, hA0, hb, hcell⟩ := HL.out k x hx
          subst hA0
          have HX := Lib.hid hx
          have hxo := (HOK.out.l x (List.mem_of_getElem? HX.out)).1
          clear hx
          have hk0 : (0 : Int) ≤ (k : Int) := by omega
          have hk1 : (k : Int) < (nL : Int) := by omega
          obtain ⟨x0, x1, x2⟩ := x
          have h0 := (HMM.out.below.cell (p := ⟨b, off + (k * 3 + 0), none⟩) hb).trans (hcell 0 _ rfl)
          have h1 := (HMM.out.below.cell (p := ⟨b, off + (k * 3 + 1), none⟩) hb).trans (hcell 1 _ rfl)
          have h2 := (HMM.out.below.cell (p := ⟨b, off + (k * 3 + 2), none⟩) hb).trans (hcell 2 _ rfl)
          simp only [Nat.add_zero, ← Nat.add_assoc] at h0 h1 h2
          clear hcell
          have HMA := Lib.hid (HMM.out.alloc (.cells #[.int .i64 x0, .int .i64 x1, .int .i64 x2] 70))
          obtain ⟨g0, g1, g2, g3, g4, g5, g6, g7, g8, g9, g10⟩ := rbox_of HMA.out.box
          have hwz := Blk.lt HMM.out.tab
          by_cases hu : defE tk x0 = 0
          · have HU := Lib.hid hu
            clear hu
            by_cases hr0 : x2 = 0
            · subst hr0
              have HRS : Hid (resetE (x0, x1, 0) = 0) := Lib.hid (by unfold resetE; simp)
              go_wp2_with (go_at_call 132; refine (HC.out _ (w.heap.size + 1) tk x0 hxo HMA.out.tab HTL.out).mono ?_; rw [HU.out]; rintro e w2 ⟨rfl, hgr, htab⟩; have HM2 := Lib.hid (HMA.out.grown (by omega) (by omega) hgr htab); have hcc := (Blk.new wr 70 #[.int .i64 x0, .int .i64 x1, .int .i64 0]).grown hgr (by simp; omega); have hd0 := hcc.cell 0; have hd2 := hcc.cell 2; simp at hd0 hd2; clear hcc; clear hgr htab)
              go_roundw
              case rel => first | exact ⟨k + 1, _, by omega, by go_num, by rw [defT_len]; exact HTL.out, by rw [HAL.out]; exact defAll_step HX.out HU.out HRS.out, HM2.out⟩ | ((repeat apply Exists.intro); exact ⟨⟨k + 1, _, by omega, by go_num, by rw [defT_len]; exact HTL.out, by rw [HAL.out]; exact defAll_step HX.out HU.out HRS.out, HM2.out⟩, rfl⟩)
              case measure => simp [intOf]; omega
            · by_cases hr1 : x2 = 1
              · subst hr1
                have HRS : Hid (resetE (x0, x1, 1) = 0) := Lib.hid (by unfold resetE; simp)
                go_wp2_with (go_at_call 132; refine (HC.out _ (w.heap.size + 1) tk x0 hxo HMA.out.tab HTL.out).mono ?_; rw [HU.out]; rintro e w2 ⟨rfl, hgr, htab⟩; have HM2 := Lib.hid (HMA.out.grown (by omega) (by omega) hgr htab); have hcc := (Blk.new wr 70 #[.int .i64 x0, .int .i64 x1, .int .i64 1]).grown hgr (by simp; omega); have hd0 := hcc.cell 0; have hd2 := hcc.cell 2; simp at hd0 hd2; clear hcc; clear hgr htab)
                go_roundw
                case rel => first | exact ⟨k + 1, _, by omega, by go_num, by rw [defT_len]; exact HTL.out, by rw [HAL.out]; exact defAll_step HX.out HU.out HRS.out, HM2.out⟩ | ((repeat apply Exists.intro); exact ⟨⟨k + 1, _, by omega, by go_num, by rw [defT_len]; exact HTL.out, by rw [HAL.out]; exact defAll_step HX.out HU.out HRS.out, HM2.out⟩, rfl⟩)
                case measure => simp [intOf]; omega
              · by_cases hr2 : x2 = x0
                · subst hr2
                  have HRS : Hid (resetE (x2, x1, x2) = 0) := Lib.hid (by unfold resetE; simp)
                  have e1 : (x2 == 0) = false := by simpa using hr0
                  have e2 : (x2 == 1) = false := by simpa using hr1
                  have e4 : (x2 != 0) = true := by simpa using hr0
                  have e5 : (x2 != 1) = true := by simpa using hr1
                  go_wp2_with (go_at_call 132; refine (HC.out _ (w.heap.size + 1) tk x2 hxo HMA.out.tab HTL.out).mono ?_; rw [HU.out]; rintro e w2 ⟨rfl, hgr, htab⟩; have HM2 := Lib.hid (HMA.out.grown (by omega) (by omega) hgr htab); have hcc := (Blk.new wr 70 #[.int .i64 x2, .int .i64 x1, .int .i64 x2]).grown hgr (by simp; omega); have hd0 := hcc.cell 0; have hd2 := hcc.cell 2; simp at hd0 hd2; clear hcc; clear hgr htab)
                  go_roundw
                  case rel => first | exact ⟨k + 1, _, by omega, by go_num, by rw [defT_len]; exact HTL.out, by rw [HAL.out]; exact defAll_step HX.out HU.out HRS.out, HM2.out⟩ | ((repeat apply Exists.intro); exact ⟨⟨k + 1, _, by omega, by go_num, by rw [defT_len]; exact HTL.out, by rw [HAL.out]; exact defAll_step HX.out HU.out HRS.out, HM2.out⟩, rfl⟩)
                  case measure => simp [intOf]; omega
                · have HRS : Hid (resetE (x0, x1, x2) = 33) := Lib.hid (by unfold resetE; exact if_pos ⟨hr0, hr1, hr2⟩)
                  have e1 : (x2 == 0) = false := by simpa using hr0
                  have e2 : (x2 == 1) = false := by simpa using hr1
                  have e3 : (x2 == x0) = false := by simpa using hr2
                  have e4 : (x2 != 0) = true := by simpa using hr0
                  have e5 : (x2 != 1) = true := by simpa using hr1
                  have e6 : (x2 != x0) = true := by simpa using hr2
                  go_wp2_with (go_at_call 132; refine (HC.out _ (w.heap.size + 1) tk x0 hxo HMA.out.tab HTL.out).mono ?_; rw [HU.out]; rintro e w2 ⟨rfl, hgr, htab⟩; have HM2 := Lib.hid (HMA.out.grown (by omega) (by omega) hgr htab); have hcc := (Blk.new wr 70 #[.int .i64 x0, .int .i64 x1, .int .i64 x2]).grown hgr (by simp; omega); have hd0 := hcc.cell 0; have hd2 := hcc.cell 2; simp at hd0 hd2; clear hcc; clear hgr htab)
                  go_ret3
                  have hfin := defR_l HEI.out (HAL.out.trans (defAll_bad HX.out HU.out (by rw [HRS.out]; omega))) (by show resetE _ ≠ 0; rw [HRS.out]; omega)
                  rw [HRS.out] at hfin
                  refine ⟨_, ret_rdef (by rw [← HR.out]; exact hfin), HM2.out.below, fun h0 => ?_⟩
                  rw [← HR.out, hfin] at h0; cases h0
          · have hq : (defE tk x0 == 0) = false := by simpa using hu
            have hq2 : (defE tk x0 != 0) = true := by simpa using hu
            have HU := Lib.hid hu
            clear hu
            go_wp2_with (go_at_call 132; refine (HC.out _ (w.heap.size + 1) tk x0 hxo HMA.out.tab HTL.out).mono ?_; rintro e w2 ⟨rfl, hgr, htab⟩; have HM2 := Lib.hid (HMA.out.grown (by omega) (by omega) hgr htab); have hcc := (Blk.new wr 70 #[.int .i64 x0, .int .i64 x1, .int .i64 x2]).grown hgr (by simp; omega); have hd0 := hcc.cell 0; have hd2 := hcc.cell 2; simp at hd0 hd2; clear hcc; clear hgr htab)
            go_ret3
            have hfin := defR_l HEI.out (HAL.out.trans (defAll_stop HX.out HU.out)) HU.out
            refine ⟨_, ret_rdef (by rw [← HR.out]; exact hfin), HM2.out.below, fun h0 => ?_⟩
            rw [← HR.out, hfin] at h0
            exact absurd h0 HU.out
        · have : k = nL := by omega
          subst this
          have HEL := Lib.hid (HAL.out.trans (defAll_end (by rw [HNL.out]; exact Nat.le_refl _)))
          clear HAL
          have HML := HMM
          have HTLL := HTL
          go_wp2
          clear HMM HTL c0 c1 c2 c3 c4 c5 c6 c7 c8 c9 c10
          generalize tk = tL at *
          generalize k = nL at *
          go_loopw [11] (fun i wr => ∃ (q : Nat) (tk : List Bool), q ≤ nA ∧ i = .int .i64 q ∧ tk.length = m + 1 ∧ defA C tL = defAll (fun z : Tri => z.1) (fun _ => 0) (C.ands.drop q) q tk ∧ Mid w wr w.heap.size (w.heap.size + 1) _ tk) (fun i _ => nA - (intOf i).toNat)
          case atStart => exact ⟨0, tL, Nat.zero_le _, rfl, HTLL.out, rfl, HML.out⟩
          case round =>
            obtain ⟨k, tk, hk, rfl, htl, hall, hmid⟩ := hrel
            have HAA := Lib.hid hall
            have HMM := Lib.hid hmid
            have HTL := Lib.hid htl
            clear hall hmid htl
            obtain ⟨c0, c1, c2, c3, c4, c5, c6, c7, c8, c9, c10⟩ := rbox_of HMM.out.box
            have hwr := HMM.out.below.size
            by_cases hlt : k < nA
            · have hx := List.getElem?_eq_getElem (l := C.ands) (i := k) (by rw [HNA.out]; exact hlt)
              generalize C.ands[k]'(by rw [HNA.out]; exact hlt) = x at hx
              obtain ⟨b, off, hA0, hb, hcell⟩ := HA.out k x hx
              subst hA0
              have HX := Lib.hid hx
              have hxo := (HOK.out.a x (List.mem_of_getElem? HX.out)).1
              clear hx
              have hk0 : (0 : Int) ≤ (k : Int) := by omega
              have hk1 : (k : Int) < (nA : Int) := by omega
              obtain ⟨x0, x1, x2⟩ := x
              have h0 := (HMM.out.below.cell (p := ⟨b, off + (k * 3 + 0), none⟩) hb).trans (hcell 0 _ rfl)
              simp only [Nat.add_zero] at h0
              clear hcell
              by_cases hu : defE tk x0 = 0
              · have HU := Lib.hid hu
                clear hu
                go_wp2
                have HMD := Lib.hid HMM.out.drew
                go_still_tail 8, (by kernel_rfl)
                change wpList _ _ _ _ _ wr.drew
                generalize wr.drew = wd at *
                go_wp2_with (go_at_call 132; refine (HC.out _ (w.heap.size + 1) tk x0 hxo HMD.out.tab HTL.out).mono ?_; rw [HU.out]; rintro e w2 ⟨rfl, hgr, htab⟩; have HM2 := Lib.hid (HMD.out.grown (by omega) (by omega) hgr htab); clear hgr htab)
                go_roundw
                case rel => first | exact ⟨k + 1, _, by omega, by go_num, by rw [defT_len]; exact HTL.out, by rw [HAA.out]; exact defAll_step HX.out HU.out rfl, HM2.out⟩ | ((repeat apply Exists.intro); exact ⟨⟨k + 1, _, by omega, by go_num, by rw [defT_len]; exact HTL.out, by rw [HAA.out]; exact defAll_step HX.out HU.out rfl, HM2.out⟩, rfl⟩)
                case measure => simp [intOf]; omega
              · have hq : (defE tk x0 == 0) = false := by simpa using hu
                have hq2 : (defE tk x0 != 0) = true := by simpa using hu
                have HU := Lib.hid hu
                clear hu
                go_wp2
                have HMD := Lib.hid HMM.out.drew
                go_still_tail 8, (by kernel_rfl)
                change wpList _ _ _ _ _ wr.drew
                generalize wr.drew = wd at *
                go_wp2_with (go_at_call 132; refine (HC.out _ (w.heap.size + 1) tk x0 hxo HMD.out.tab HTL.out).mono ?_; rintro e w2 ⟨rfl, hgr, htab⟩; have HM2 := Lib.hid (HMD.out.grown (by omega) (by omega) hgr htab); clear hgr htab)
                go_ret3
                have hfin := defR_a HEI.out HEL.out (HAA.out.trans (defAll_stop HX.out HU.out))
                refine ⟨_, ret_rdef (by rw [← HR.out]; exact hfin), HM2.out.below, fun h0 => ?_⟩
                rw [← HR.out, hfin] at h0
                exact absurd h0 HU.out
            · have : k = nA := by omega
              subst this
              have HEA := Lib.hid (HAA.out.trans (defAll_end (by rw [HNA.out]; exact Nat.le_refl _)))
              clear HAA
              have hfr := Blk.frozen HMM.out.tab 0
              obtain ⟨y0, hy0⟩ : ∃ y, tk[0]? = some y := ⟨_, List.getElem?_eq_getElem (by rw [HTL.out]; omega)⟩
              have hd0 := HMM.out.tab.cell hy0
              have HS := Lib.hid (HMM.out.tab.set_ 0 true)
              have HBS := Lib.hid (below_set HMM.out.below (Nat.le_succ _) 0 (.bool true))
              have hm0 : (0 : Int) < (m : Int) + 1 := by omega
              clear hy0
              go_wp2
              go_ret3
              have hfin := defR_a HEI.out HEL.out HEA.out
              refine ⟨_, ret_rdef (by rw [← HR.out]; exact hfin), HBS.out, fun _ => ⟨_, rfl, ?_⟩⟩
              rw [← HR.out, hfin]
              exact HS.out
end Go.Proofs.Ytdodhbfplglbkaa

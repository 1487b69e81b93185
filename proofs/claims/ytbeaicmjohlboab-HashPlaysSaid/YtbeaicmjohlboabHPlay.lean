/- The walk of HashPlays: for whatever numbers and calls the statement's Go function answers true, and nothing that was there has turned. -/
import Derived.Test.YtbeaicmjohlboabHshT
import Derived.Test.YtbeaicmjohlboabSpoilW
namespace Go.Proofs.Ytbeaicmjohlboab
open Go.RowKit Go.Maps

set_option maxHeartbeats 800000 in
theorem sameAndsH_any (w : World) (v u : Value) (xs ys : List Tri) (h : RowE 3 encT w v xs) (h' : RowE 3 encT w u ys) : Calls Try.prog 14 #[v, u] w fun e w' => e = .returned (.bool (decide (xs = ys))) ∧ Below w.heap.size w w' := by
  have hlen := h.len
  have hlen' := h'.len
  unfold maxLen at hlen hlen'
  obtain ⟨A, c, rfl, hc, hm, hp⟩ := h
  obtain ⟨A', c', rfl, hc', hm', hq⟩ := h'
  generalize hr : decide (xs = ys) = r
  have HR := Lib.hid hr
  clear hr hc hm hc' hm'
  have HP := Lib.hid hp
  have HQ := Lib.hid hq
  clear hp hq
  by_cases hne : xs.length = ys.length
  · rw [← hne]
    have HM := Lib.hid hne
    clear hne hlen'
    generalize hn : xs.length = n at *
    have HN := Lib.hid hn
    clear hn
    go_enter Try.func14, Try.ntmps14
    go_wp2
    go_loopw [5] (fun i wr => ∃ k : Nat, k ≤ n ∧ i = .int .i64 k ∧ xs.take k = ys.take k ∧ Below w.heap.size w wr) (fun i _ => n - (intOf i).toNat)
    case atStart => exact ⟨0, Nat.zero_le _, rfl, by simp, Below.refl _ _⟩
    case round =>
      obtain ⟨k, hk, rfl, hall, hbw⟩ := hrel
      have HA := Lib.hid hall
      clear hall
      by_cases hlt : k < n
      · have hx := List.getElem?_eq_getElem (l := xs) (i := k) (by rw [HN.out]; exact hlt)
        have hy := List.getElem?_eq_getElem (l := ys) (i := k) (by rw [← HM.out]; exact hlt)
        generalize xs[k]'(by rw [HN.out]; exact hlt) = x at hx
        generalize ys[k]'(by rw [← HM.out]; exact hlt) = y at hy
        obtain ⟨b, off, rfl, hb, hcell⟩ := HP.out k x hx
        obtain ⟨b', off', rfl, hb', hcell'⟩ := HQ.out k y hy
        have HX := Lib.hid hx
        have HY := Lib.hid hy
        clear hx hy
        obtain ⟨x0, x1, x2⟩ := x
        obtain ⟨y0, y1, y2⟩ := y
        have h0 := (hbw.cell (p := ⟨b, off + (k * 3 + 0), none⟩) hb).trans (hcell 0 _ rfl)
        have g0 := (hbw.cell (p := ⟨b', off' + (k * 3 + 0), none⟩) hb').trans (hcell' 0 _ rfl)
        have h1 := (hbw.cell (p := ⟨b, off + (k * 3 + 1), none⟩) hb).trans (hcell 1 _ rfl)
        have g1 := (hbw.cell (p := ⟨b', off' + (k * 3 + 1), none⟩) hb').trans (hcell' 1 _ rfl)
        have h2 := (hbw.cell (p := ⟨b, off + (k * 3 + 2), none⟩) hb).trans (hcell 2 _ rfl)
        have g2 := (hbw.cell (p := ⟨b', off' + (k * 3 + 2), none⟩) hb').trans (hcell' 2 _ rfl)
        simp only [Nat.add_zero, ← Nat.add_assoc] at h0 g0 h1 g1 h2 g2
        clear hcell hcell'
        cases he : eqT (x0, x1, x2) (y0, y1, y2)
        · have hr : r = false := by
            rw [← HR.out, decide_eq_false_iff_not]
            intro e
            subst e
            have e2 := HX.out.symm.trans HY.out
            rw [Option.some.injEq] at e2
            rw [eqT_iff.2 e2] at he
            cases he
          subst hr
          clear HX HY
          rcases eqT_no he with hl1 | ⟨rfl, hl1⟩ | ⟨rfl, rfl, hl1⟩
          clear he
          all_goals
            go_wp2
            go_quiet (fail)
            go_wp2
            go_ret
            exact ⟨rfl, below_drewN hbw _⟩
        · have HE := Lib.hid he
          obtain ⟨rfl, rfl, rfl⟩ := eqT_yes he
          clear he
          go_wp2
          go_quiet (fail)
          go_wp2
          go_roundw
          case rel => exact ⟨k + 1, by omega, by go_num, take_eq_succ' HX.out (by rw [eqT_iff.1 HE.out]; exact HY.out) HA.out, below_drewN hbw _⟩
          case measure => simp [intOf]; omega
      · have : k = n := by omega
        subst this
        go_wp2
        go_ret
        refine ⟨ret_bool ?_, hbw⟩
        rw [← HR.out, eq_comm, decide_eq_true_iff]
        exact take_all HN.out (HM.out.symm) HA.out
  · have hr : r = false := by
      rw [← HR.out, decide_eq_false_iff_not]
      intro e; exact hne (by rw [e])
    subst hr
    have hd : ((xs.length : Int) == (ys.length : Int)) = false := by simpa using fun e => hne (by exact_mod_cast e)
    have hd2 : ((xs.length : Int) != (ys.length : Int)) = true := by simpa using fun e => hne (by exact_mod_cast e)
    have HR := Lib.hid hne
    clear hne
    go_enter Try.func14, Try.ntmps14
    go_wp2
    go_ret
    exact ⟨rfl, Below.refl _ _⟩

theorem wpAnyT_mono {P : Program} {md : Region.Mode} {ops : Array Oper} {Q : Exit → Act → World → Prop} {S S2 : World → Prop} {n : Nat} (hs : ∀ w, S2 w → S w) : ∀ (fuel : Nat) (listed : Array Bool) (a : Act) (w : World), wpAnyT P md ops Q S2 n fuel listed a w → wpAnyT P md ops Q S n fuel listed a w
  | 0, _, _, _, h => h
  | fuel + 1, _, _, _, h => ⟨h.1, fun i hi => wpOp_mono (fun a' w' h' => ⟨fun hl => hs w' (h'.1 hl), wpAnyT_mono hs fuel _ a' w' h'.2⟩) (h.2 i hi)⟩
abbrev encA (z : Int × Int × Int × Int) : List Value := [.int .i64 z.1, .int .i64 z.2.1, .int .i64 z.2.2.1, .int .i64 z.2.2.2]
theorem lenA (z : Int × Int × Int × Int) : (encA z).length = 4 := rfl
theorem own_play {w w' : World} {B n : Nat} {v : Value} {xs : List Value} (h : w.ownsRow B 43 3 v n xs) (hb : Below w.heap.size w w') : TySl w' B w.heap.size 43 3 v n := TySl.of_own h (own_below h hb)

set_option maxHeartbeats 20000000 in
set_option maxRecDepth 100000 in
theorem hashPlays_walk (w : World) (i l : Int) (hi : I64 i) (hl : I64 l) (av : Value) (acts : List (Int × Int × Int × Int)) (hA : RowE 4 encA w av acts) (h64 : ∀ z ∈ acts, I64 z.1 ∧ I64 z.2.1 ∧ I64 z.2.2.1 ∧ I64 z.2.2.2) :
    Calls Try.prog 3 #[.agg #[.int .i64 i, .int .i64 l], av] w fun e w' => e = .returned (.bool true) ∧ Below w.heap.size w w' := by
  obtain ⟨A, cA, rfl, _, hm, hrun⟩ := hA
  obtain ⟨nA, hnA⟩ : ∃ n, acts.length = n := ⟨_, rfl⟩
  have hnm : nA ≤ 9223372036854775807 := by unfold maxLen at hm; omega
  rw [hnA]
  have HNA := Lib.hid hnA
  have HRUN := Lib.hid hrun
  have H64 := Lib.hid h64
  have HB1 : Hid (Below w.heap.size w (w.alloc (.cells #[.int .i64 i, .int .i64 l] 23))) := Lib.hid ((Below.refl _ _).alloc (Nat.le_refl _) _)
  have HBX : Hid (Blk (w.alloc (.cells #[.int .i64 i, .int .i64 l] 23)) w.heap.size 23 #[.int .i64 i, .int .i64 l]) := Lib.hid (Blk.new w _ _)
  obtain ⟨W1, hW1⟩ : ∃ W1, w.alloc (.cells #[.int .i64 i, .int .i64 l] 23) = W1 := ⟨_, rfl⟩
  rw [hW1] at HB1 HBX
  have HW1 := Lib.hid hW1
  have HN := Lib.hid (hNew_any W1 i l)
  have HM := Lib.hid (fun wz => rNew_any wz i l hi hl)
  have HWK := Lib.hid (fun wz => worksH_any wz)
  have c0 := HBX.out.cell 0
  have c1 := HBX.out.cell 1
  simp only [List.getElem?_toArray, List.getElem?_cons_zero, List.getElem?_cons_succ] at c0 c1
  clear hrun h64 hnA hm hW1 hi hl
  cases hnb : newB i l
  · go_enter Try.func3, Try.ntmps3
    go_upto_region 1 with (fail)
    rw [HW1.out]
    have HNB := Lib.hid hnb
    clear hnb
    go_upto_region 2 with (go_at_call 8; refine HN.out.mono ?_; rintro e w2 ⟨hb2, _, hno⟩; obtain rfl := hno HNB.out; have HB2 := Lib.hid hb2; clear hb2 hno c0 c1; have k2 := HBX.out.below HB2.out HBX.out.lt; have c0 := k2.cell 0; have c1 := k2.cell 1; simp only [List.getElem?_toArray, List.getElem?_cons_zero, List.getElem?_cons_succ] at c0 c1; clear k2)
    go_upto_region 3 with (go_at_call 9; refine (HM.out _).mono ?_; rintro e w3 ⟨hb3, _, hno⟩; obtain rfl := hno HNB.out; have HB3 := Lib.hid (bt HB1.out (Nat.le_refl _) (bt HB2.out (Nat.le_refl _) hb3)); clear hb3 hno c0 c1)
    go_wp2_with (go_at_call 10; refine (HWK.out _).mono ?_; rintro e w4 ⟨rfl, hb4⟩; have HB4 := Lib.hid (bt HB3.out (Nat.le_refl _) hb4); clear hb4)
    go_ret
    exact ⟨rfl, HB4.out⟩
  · have HNB := Lib.hid hnb
    clear hnb
    go_enter Try.func3, Try.ntmps3
    go_upto_region 1 with (fail)
    rw [HW1.out]
    go_upto_region 2 with (go_at_call 8; refine HN.out.mono ?_; rintro e w2 ⟨hb2, hyes, _⟩; obtain ⟨bx, F, rfl, hh, hf⟩ := hyes HNB.out; have HB2 := Lib.hid hb2; have HH2 := Lib.hid (And.intro hh hf); clear hb2 hyes hh hf c0 c1; have k2 := HBX.out.below HB2.out HBX.out.lt; have c0 := k2.cell 0; have c1 := k2.cell 1; simp only [List.getElem?_toArray, List.getElem?_cons_zero, List.getElem?_cons_succ] at c0 c1; clear k2)
    go_upto_region 3 with (go_at_call 9; refine (HM.out _).mono ?_; rintro e w3 ⟨hb3, hyes, _⟩; obtain ⟨cx, G, rfl, hr, hg⟩ := hyes HNB.out; have HB3 := Lib.hid (bt HB1.out (Nat.le_refl _) (bt HB2.out (Nat.le_refl _) hb3)); have HT3 : Hid (Two w.heap.size w3 bx cx (bdN i l)) := Lib.hid ⟨F, G, HH2.out.1.below hb3, hr, fun k hf hg2 => by have h1 := HH2.out.1.lt hf; have h2 := hg k hg2; omega, fun k hf => Nat.le_trans HB1.out.size (HH2.out.2 k hf), fun k hg2 => Nat.le_trans (Nat.le_trans HB1.out.size HB2.out.size) (hg k hg2)⟩; clear hb3 hyes hr hg c0 c1)
    clear HH2 HB2 HN HM HBX
    go_wp2
    go_loopg [9] nA (fun j iv wx => ∃ (q : Nat) (b : Bd), q ≤ nA ∧ j = nA - q ∧ iv = .int .i64 q ∧ Below w.heap.size w wx ∧ Two w.heap.size wx bx cx b)
    case atStart => exact ⟨0, _, Nat.zero_le _, rfl, rfl, HB3.out, HT3.out⟩
    case round =>
      obtain ⟨q, b, hq, hgk, rfl, hbw, htw⟩ := hrel
      subst hgk
      clear HB3 HT3
      have HBW := Lib.hid hbw
      have HTW := Lib.hid htw
      by_cases hlt : q < nA
      · have hqi : (q : Int) < (nA : Int) := by omega
        have hqi0 : (0 : Int) ≤ (q : Int) := by omega
        by_cases h300 : q < 300
        · have hq3 : (q : Int) < 300 := by omega
          obtain ⟨z, hz⟩ : ∃ z, acts[q]? = some z := ⟨_, List.getElem?_eq_getElem (by rw [HNA.out]; exact hlt)⟩
          obtain ⟨ab, off, e, hab, hcell⟩ := HRUN.out q z hz
          subst e
          have HZ := Lib.hid (H64.out z (List.mem_of_getElem? hz))
          obtain ⟨z0, z1, z2, z3⟩ := z
          have HACT : Hid (∀ wz, Below w.heap.size w wz → wz.cell? ⟨ab, off + q * 4, none⟩ = some (.int .i64 z0) ∧ wz.cell? ⟨ab, off + q * 4 + 1, none⟩ = some (.int .i64 z1) ∧ wz.cell? ⟨ab, off + q * 4 + 2, none⟩ = some (.int .i64 z2) ∧ wz.cell? ⟨ab, off + q * 4 + 3, none⟩ = some (.int .i64 z3)) := Lib.hid (fun wz hb => by
            have k0 := (hb.cell (p := ⟨ab, off + (q * 4 + 0), none⟩) hab).trans (hcell 0 _ rfl)
            have k1 := (hb.cell (p := ⟨ab, off + (q * 4 + 1), none⟩) hab).trans (hcell 1 _ rfl)
            have k2 := (hb.cell (p := ⟨ab, off + (q * 4 + 2), none⟩) hab).trans (hcell 2 _ rfl)
            have k3 := (hb.cell (p := ⟨ab, off + (q * 4 + 3), none⟩) hab).trans (hcell 3 _ rfl)
            simp only [Nat.add_zero, ← Nat.add_assoc] at k0 k1 k2 k3
            exact ⟨k0, k1, k2, k3⟩)
          have HD : Hid (Below w.heap.size w wr.drew) := Lib.hid hbw.drew
          have HTD : Hid (Two w.heap.size wr.drew bx cx b) := Lib.hid (htw.below (Below.refl _ _).drew)
          clear hcell hz hbw htw
          go_upto_region 10 with (fail)
          refine wp_region_T (by kernel_rfl) (fun w' => w'.cell? ⟨ab, off + q * 4, none⟩ = some (.int .i64 z0) ∧ w'.cell? ⟨ab, off + q * 4 + 1, none⟩ = some (.int .i64 z1) ∧ w'.cell? ⟨ab, off + q * 4 + 2, none⟩ = some (.int .i64 z2) ∧ w'.cell? ⟨ab, off + q * 4 + 3, none⟩ = some (.int .i64 z3)) 18 ?_
          have hHeld := HACT.out _ HD.out
          refine wpAnyT_take (i := 0) (oi := { dst := some 51, op := Op.move (Operand.tmp 5), type := 25, pos := "law.go:74", after := #[], guard := none }) (v := ?v0r10q1) rfl (by kernel_rfl) (fun _ _ _ h => h) (by rfl) hHeld ?h0r10q1 ?_
          case h0r10q1 => (intro w' hSw; (try dsimp only at hSw); go_simp; try with_reducible rfl)
          (try simp only [Act.put, List.setIfInBounds_toArray, List.set_cons_zero, List.set_cons_succ])
          refine wpAnyT_take (i := 1) (oi := { dst := some 52, op := Op.move (Operand.tmp 7), type := 29, pos := "law.go:74", after := #[], guard := none }) (v := ?v1r10q1) rfl (by kernel_rfl) (fun _ _ _ h => h) (by rfl) hHeld ?h1r10q1 ?_
          case h1r10q1 => (intro w' hSw; (try dsimp only at hSw); go_simp; try with_reducible rfl)
          (try simp only [Act.put, List.setIfInBounds_toArray, List.set_cons_zero, List.set_cons_succ])
          refine wpAnyT_take (i := 2) (oi := { dst := some 53, op := Op.move (Operand.tmp 1), type := 24, pos := "law.go:74", after := #[], guard := none }) (v := ?v2r10q1) rfl (by kernel_rfl) (fun _ _ _ h => h) (by rfl) hHeld ?h2r10q1 ?_
          case h2r10q1 => (intro w' hSw; (try dsimp only at hSw); go_simp; try with_reducible rfl)
          (try simp only [Act.put, List.setIfInBounds_toArray, List.set_cons_zero, List.set_cons_succ])
          refine wpAnyT_take (i := 3) (oi := { dst := some 54, op := Op.move (Operand.tmp 9), type := 3, pos := "law.go:74", after := #[], guard := none }) (v := ?v3r10q1) rfl (by kernel_rfl) (fun _ _ _ h => h) (by rfl) hHeld ?h3r10q1 ?_
          case h3r10q1 => (intro w' hSw; (try dsimp only at hSw); go_simp; try with_reducible rfl)
          (try simp only [Act.put, List.setIfInBounds_toArray, List.set_cons_zero, List.set_cons_succ])
          refine wpAnyT_take (i := 4) (oi := { dst := some 55, op := Op.indexAddr 24 (Operand.tmp 53) (Operand.tmp 54), type := 0, pos := "law.go:74", after := #[{ on := 2, ground := Ground.data }, { on := 3, ground := Ground.data }], guard := none }) (v := ?v4r10q1) rfl (by kernel_rfl) (fun _ _ _ h => h) (by rfl) hHeld ?h4r10q1 ?_
          case h4r10q1 => (intro w' hSw; (try dsimp only at hSw); go_simp; try with_reducible rfl)
          (try simp only [Act.put, List.setIfInBounds_toArray, List.set_cons_zero, List.set_cons_succ])
          refine wpAnyT_take (i := 5) (oi := { dst := some 56, op := Op.load 35 (Operand.tmp 55), type := 35, pos := "law.go:74", after := #[{ on := 4, ground := Ground.data }], guard := none }) (v := ?v5r10q1) rfl (by kernel_rfl) (fun _ _ _ h => h) (by rfl) hHeld ?h5r10q1 ?_
          case h5r10q1 => (intro w' hSw; (try dsimp only at hSw); go_simp; try with_reducible rfl)
          (try simp only [Act.put, List.setIfInBounds_toArray, List.set_cons_zero, List.set_cons_succ])
          clear hHeld
          refine wpAnyT_one (i := 6) (o := { dst := some 57, op := Op.call { callee := Callee.value (Operand.func 11), args := #[Operand.tmp 51, Operand.tmp 52, Operand.tmp 56], argTypes := #[25, 29, 35] }, type := 4, pos := "law.go:74", after := #[{ on := 0, ground := Ground.data }, { on := 1, ground := Ground.data }, { on := 5, ground := Ground.data }], guard := none }) rfl (by kernel_rfl) (fun K hK => ?_)
          go_simp
          go_at_call 11
          refine (stepH_any _ w.heap.size bx cx b z0 z1 z2 z3 HZ.out.1 HZ.out.2.1 HZ.out.2.2.1 HZ.out.2.2.2 HTD.out HD.out.size).mono ?_
          rintro e w4 ⟨rfl, hb4, b4, t4⟩
          have HB4 := Lib.hid (HD.out.trans hb4)
          have HT4 := Lib.hid t4
          obtain ⟨F4, G4, h4, r4, _, _, _⟩ := t4
          have HSZ := Lib.hid (hSize_any w4 bx b4 F4 h4)
          have HGA := Lib.hid (hGates_any w4 bx b4 F4 h4)
          obtain ⟨A4, c4, bx4, rw4⟩ := r4.cells
          have HR4 := Lib.hid (And.intro bx4 rw4)
          have k4 := bx4.cell 2
          simp only [List.getElem?_toArray, List.getElem?_cons_zero, List.getElem?_cons_succ] at k4
          obtain ⟨n4, hn4⟩ : ∃ n, b4.g.length = n := ⟨_, rfl⟩
          have hn4b : n4 ≤ 16384 := by have := h4.ok.last; unfold Bd.last at this; omega
          rw [hn4] at HSZ HR4 k4
          rw [tris_len, hn4] at HGA
          have HN4 := Lib.hid hn4
          have HK4 := Lib.hid k4
          clear hn4 hb4 h4 r4 bx4 rw4 k4
          refine hK.out _ _ (fun _ => HACT.out _ HB4.out) ?_
          clear hK K
          (try simp only [Act.put, List.setIfInBounds_toArray, List.set_cons_zero, List.set_cons_succ])
          refine wpAnyT_mono (S2 := fun w' => (w'.cell? ⟨ab, off + q * 4, none⟩ = some (.int .i64 z0) ∧ w'.cell? ⟨ab, off + q * 4 + 1, none⟩ = some (.int .i64 z1) ∧ w'.cell? ⟨ab, off + q * 4 + 2, none⟩ = some (.int .i64 z2) ∧ w'.cell? ⟨ab, off + q * 4 + 3, none⟩ = some (.int .i64 z3)) ∧ w'.cell? ⟨cx, 2, none⟩ = some (.slice A4 n4 c4)) (fun _ h => h.1) _ _ _ _ ?_
          have hHeld : (w4.cell? ⟨ab, off + q * 4, none⟩ = some (.int .i64 z0) ∧ w4.cell? ⟨ab, off + q * 4 + 1, none⟩ = some (.int .i64 z1) ∧ w4.cell? ⟨ab, off + q * 4 + 2, none⟩ = some (.int .i64 z2) ∧ w4.cell? ⟨ab, off + q * 4 + 3, none⟩ = some (.int .i64 z3)) ∧ w4.cell? ⟨cx, 2, none⟩ = some (.slice A4 n4 c4) := ⟨HACT.out _ HB4.out, HK4.out⟩
          refine wpAnyT_take (i := 7) (oi := { dst := some 58, op := Op.unOp UnOp.not 4 (Operand.tmp 57), type := 4, pos := "law.go:74", after := #[{ on := 6, ground := Ground.data }], guard := none }) (v := ?v7r10q2) rfl (by kernel_rfl) (fun _ _ _ h => h) (by rfl) hHeld ?h7r10q2 ?_
          case h7r10q2 => (intro w' hSw; (try dsimp only at hSw); go_simp; try with_reducible rfl)
          (try simp only [Act.put, List.setIfInBounds_toArray, List.set_cons_zero, List.set_cons_succ])
          refine wpAnyT_take (i := 8) (oi := { dst := some 59, op := Op.move (Operand.tmp 58), type := 4, pos := "law.go:74", after := #[{ on := 7, ground := Ground.data }, { on := 6, ground := Ground.chain }], guard := none }) (v := ?v8r10q2) rfl (by kernel_rfl) (fun _ _ _ h => h) (by rfl) hHeld ?h8r10q2 ?_
          case h8r10q2 => (intro w' hSw; (try dsimp only at hSw); go_simp; try with_reducible rfl)
          (try simp only [Act.put, List.setIfInBounds_toArray, List.set_cons_zero, List.set_cons_succ])
          refine wpAnyT_take (i := 9) (oi := { dst := some 60, op := Op.move (Operand.tmp 5), type := 25, pos := "law.go:74", after := #[{ on := 8, ground := Ground.guard }], guard := some (8, false) }) (v := ?v9r10q2) rfl (by kernel_rfl) (fun _ _ _ h => h) (by rfl) hHeld ?h9r10q2 ?_
          case h9r10q2 => (intro w' hSw; (try dsimp only at hSw); go_simp; try with_reducible rfl)
          (try simp only [Act.put, List.setIfInBounds_toArray, List.set_cons_zero, List.set_cons_succ])
          refine wpAnyT_take (i := 11) (oi := { dst := some 62, op := Op.move (Operand.tmp 7), type := 29, pos := "law.go:74", after := #[{ on := 8, ground := Ground.guard }], guard := some (8, false) }) (v := ?v11r10q3) rfl (by kernel_rfl) (fun _ _ _ h => h) (by rfl) hHeld ?h11r10q3 ?_
          case h11r10q3 => (intro w' hSw; (try dsimp only at hSw); go_simp; try with_reducible rfl)
          (try simp only [Act.put, List.setIfInBounds_toArray, List.set_cons_zero, List.set_cons_succ])
          refine wpAnyT_take (i := 12) (oi := { dst := some 63, op := Op.nilCheck (Operand.tmp 62), type := 0, pos := "law.go:74", after := #[{ on := 11, ground := Ground.data }, { on := 8, ground := Ground.guard }], guard := some (8, false) }) (v := ?v12r10q3) rfl (by kernel_rfl) (fun _ _ _ h => h) (by rfl) hHeld ?h12r10q3 ?_
          case h12r10q3 => (intro w' hSw; (try dsimp only at hSw); go_simp; try with_reducible rfl)
          (try simp only [Act.put, List.setIfInBounds_toArray, List.set_cons_zero, List.set_cons_succ])
          refine wpAnyT_take (i := 13) (oi := { dst := some 64, op := Op.fieldAddr 39 (Operand.tmp 63) 2, type := 0, pos := "law.go:74", after := #[{ on := 12, ground := Ground.data }, { on := 8, ground := Ground.guard }], guard := some (8, false) }) (v := ?v13r10q3) rfl (by kernel_rfl) (fun _ _ _ h => h) (by rfl) hHeld ?h13r10q3 ?_
          case h13r10q3 => (intro w' hSw; (try dsimp only at hSw); go_simp; try with_reducible rfl)
          (try simp only [Act.put, List.setIfInBounds_toArray, List.set_cons_zero, List.set_cons_succ])
          refine wpAnyT_take (i := 14) (oi := { dst := some 65, op := Op.load 37 (Operand.tmp 64), type := 37, pos := "law.go:74", after := #[{ on := 13, ground := Ground.data }, { on := 8, ground := Ground.guard }], guard := some (8, false) }) (v := ?v14r10q3) rfl (by kernel_rfl) (fun _ _ _ h => h) (by rfl) hHeld ?h14r10q3 ?_
          case h14r10q3 => (intro w' hSw; (try dsimp only at hSw); go_simp; try with_reducible rfl)
          (try simp only [Act.put, List.setIfInBounds_toArray, List.set_cons_zero, List.set_cons_succ])
          refine wpAnyT_take (i := 15) (oi := { dst := some 66, op := Op.call { callee := Callee.builtin Builtin.len, args := #[Operand.tmp 65], argTypes := #[37] }, type := 3, pos := "law.go:74", after := #[{ on := 14, ground := Ground.data }, { on := 8, ground := Ground.guard }], guard := some (8, false) }) (v := ?v15r10q3) rfl (by kernel_rfl) (fun _ _ _ h => h) (by rfl) hHeld ?h15r10q3 ?_
          case h15r10q3 => (intro w' hSw; (try dsimp only at hSw); go_simp; try with_reducible rfl)
          (try simp only [Act.put, List.setIfInBounds_toArray, List.set_cons_zero, List.set_cons_succ])
          refine wpAnyT_one (i := 10) (o := { dst := some 61, op := Op.call { callee := Callee.value (Operand.func 12), args := #[Operand.tmp 60], argTypes := #[25] }, type := 3, pos := "law.go:74", after := #[{ on := 9, ground := Ground.data }, { on := 8, ground := Ground.chain }, { on := 8, ground := Ground.guard }], guard := some (8, false) }) rfl (by kernel_rfl) (fun K hK => ?_)
          go_simp
          go_at_call 12
          refine HSZ.out.mono ?_
          rintro e w5 ⟨rfl, hw5⟩
          rw [hw5]
          clear hw5 w5
          refine hK.out _ _ (fun _ => hHeld) ?_
          clear hK K
          (try simp only [Act.put, List.setIfInBounds_toArray, List.set_cons_zero, List.set_cons_succ])
          have hqn : ((n4 : Int) != (n4 : Int)) = false := by simp
          refine wpAnyT_take (i := 16) (oi := { dst := some 67, op := Op.binOp BinOp.neq 3 (Operand.tmp 61) (Operand.tmp 66) 3, type := 4, pos := "law.go:74", after := #[{ on := 10, ground := Ground.data }, { on := 15, ground := Ground.data }, { on := 8, ground := Ground.guard }], guard := some (8, false) }) (v := ?v16r10q4) rfl (by kernel_rfl) (fun _ _ _ h => h) (by rfl) hHeld ?h16r10q4 ?_
          case h16r10q4 => (intro w' hSw; (try dsimp only at hSw); go_simp; try with_reducible rfl)
          (try simp only [Act.put, List.setIfInBounds_toArray, List.set_cons_zero, List.set_cons_succ])
          refine wpAnyT_take (i := 17) (oi := { dst := some 68, op := Op.pick (Operand.tmp 59) (Operand.const (Value.bool true)) (Operand.tmp 67), type := 4, pos := "law.go:74", after := #[{ on := 8, ground := Ground.data }, { on := 16, ground := Ground.data }], guard := none }) (v := ?v17r10q4) rfl (by kernel_rfl) (fun _ _ _ h => h) (by rfl) hHeld ?h17r10q4 ?_
          case h17r10q4 => (intro w' hSw; (try dsimp only at hSw); go_simp; try with_reducible rfl)
          (try simp only [Act.put, List.setIfInBounds_toArray, List.set_cons_zero, List.set_cons_succ])
          clear hHeld
          refine wpAnyT_done (by kernel_rfl) ?_
          have k4 := HK4.out
          go_upto_region 13 with (go_at_call 13; refine HGA.out.mono ?_; rintro e w5 ⟨hb5, v5, rfl, ho5⟩; obtain ⟨A5, c5, hv5⟩ := own_slice_k ho5; subst hv5; have HB5 := Lib.hid hb5; have HO5 := Lib.hid ho5; clear hb5 ho5 k4)
          have k5 := (HB5.out.cell (p := ⟨cx, 2, none⟩) HR4.out.1.lt).trans HK4.out
          have hsame := sameAndsH_any w5 _ _ b4.tris b4.tris (own_rowe (t := 43) lenT (by rw [tris_len, HN4.out]; exact HO5.out)) (HR4.out.2.below HB5.out)
          rw [decide_eq_true (rfl : b4.tris = b4.tris)] at hsame
          have HSM := Lib.hid hsame
          clear hsame
          go_upto_region 15 with (go_at_call 14; refine HSM.out.mono ?_; rintro e w6 ⟨rfl, hb6⟩; have HB6 := Lib.hid hb6; clear hb6 k5)
          have HTY : Hid (TySl w6 w4.heap.size w5.heap.size 43 3 (.slice A5 n4 c5) n4) := Lib.hid (own_play HO5.out HB6.out)
          have HB7 : Hid (Below w4.heap.size w4 w6) := Lib.hid (bt HB5.out (Nat.le_refl _) HB6.out)
          go_wp2
          go_loopg [11] n4 (fun j iv wx => ∃ p : Nat, p ≤ n4 ∧ j = n4 - p ∧ iv = .int .i64 p ∧ Below w4.heap.size w4 wx ∧ TySl wx w4.heap.size w5.heap.size 43 3 (.slice A5 n4 c5) n4)
          case atStart => exact ⟨0, Nat.zero_le _, rfl, rfl, HB7.out, HTY.out⟩
          case round =>
            obtain ⟨p, hp, hgk, rfl, hbx, hty⟩ := hrel
            subst hgk
            clear HB7 HTY
            have HBX := Lib.hid hbx
            have HTY := Lib.hid hty
            by_cases hlp : p < n4
            · obtain ⟨g, cap, eg, hg1, hg2, hg3, _, hty⟩ := hty.resolve_left (fun e => by have := e.2; omega)
              injection eg with e1 e2 e3
              subst e1 e3
              obtain ⟨x0, hx0⟩ := hty.at_ (p * 3) (by omega)
              have hf0 := hty.free (p * 3)
              obtain ⟨x1, hx1⟩ := hty.at_ (p * 3 + 1) (by omega)
              have hf1 := hty.free (p * 3 + 1)
              obtain ⟨x2, hx2⟩ := hty.at_ (p * 3 + 2) (by omega)
              have hf2 := hty.free (p * 3 + 2)
              have hbld : ∀ wz : World, (Instr.build 43 #[(0, .int .i64 (-7))]).run Try.prog wz = .ok (.agg #[.int .i64 (-7), .int .i64 0, .int .i64 0]) wz := fun wz => run_build wz _ _ _ (by kernel_rfl)
              have HG1 := Lib.hid hg1
              clear hty hbx
              go_wp2
              go_roundg (n4 - (p + 1))
              case measure => omega
              case rel => exact ⟨p + 1, by omega, rfl, by go_num, ((HBX.out.setCell (by exact HG1.out) _).setCell (by exact HG1.out) _).setCell (by exact HG1.out) _, ((HTY.out.set_ g (p * 3) _).set_ g (p * 3 + 1) _).set_ g (p * 3 + 2) _⟩
            · have hpi : ¬ (p : Int) < (n4 : Int) := by omega
              clear hbx hty
              go_wp2
              go_roundg (nA - (q + 1))
              case measure => omega
              case rel => exact ⟨q + 1, b4, by omega, rfl, by go_num, bt HB4.out (Nat.le_refl _) HBX.out, HT4.out.below HBX.out⟩
        · have hq3 : ¬ (q : Int) < 300 := by omega
          obtain ⟨F4, G4, h4, r4, _, _, _⟩ := HTW.out
          obtain ⟨A4, c4, bx4, rw4⟩ := r4.cells
          obtain ⟨n4, hn4⟩ : ∃ n, b.g.length = n := ⟨_, rfl⟩
          rw [hn4] at bx4 rw4
          have HN4 := Lib.hid hn4
          have HCX : Hid (∀ wz, Below wr.heap.size wr wz → wz.cell? ⟨cx, 2, none⟩ = some (.slice A4 n4 c4)) := Lib.hid (fun wz hb => by
            have := (bx4.below hb bx4.lt).cell 2
            simpa only [List.getElem?_toArray, List.getElem?_cons_zero, List.getElem?_cons_succ] using this)
          have HRW4 : Hid (∀ wz, Below wr.heap.size wr wz → RowE 3 encT wz (.slice A4 n4 c4) b.tris) := Lib.hid (fun wz hb => rw4.below hb)
          have HGA : Hid (∀ wz, Below wr.heap.size wr wz → Calls Try.prog 13 #[.pointer (some ⟨bx, 0, none⟩)] wz fun e w' => Below wz.heap.size wz w' ∧ ∃ v, e = .returned v ∧ w'.ownsRow wz.heap.size 43 3 v n4 (b.tris.flatMap encT)) := Lib.hid (fun wz hb => by have := hGates_any wz bx b F4 (h4.below hb); rwa [tris_len, hn4] at this)
          clear h4 r4 bx4 rw4 hn4 hbw htw HTW
          go_upto_region 19 with (fail)
          refine wp_region_T (by kernel_rfl) (fun w' => w'.cell? ⟨cx, 2, none⟩ = some (.slice A4 n4 c4)) 11 ?_
          have hHeld := HCX.out _ (Below.refl wr.heap.size wr).drew
          refine wpAnyT_take (i := 0) (oi := { dst := some 88, op := Op.move (Operand.tmp 5), type := 25, pos := "law.go:85", after := #[], guard := none }) (v := ?v0r19q5) rfl (by kernel_rfl) (fun _ _ _ h => h) (by rfl) hHeld ?h0r19q5 ?_
          case h0r19q5 => (intro w' hSw; (try dsimp only at hSw); go_simp; try with_reducible rfl)
          (try simp only [Act.put, List.setIfInBounds_toArray, List.set_cons_zero, List.set_cons_succ])
          refine wpAnyT_take (i := 2) (oi := { dst := some 90, op := Op.move (Operand.tmp 7), type := 29, pos := "law.go:85", after := #[], guard := none }) (v := ?v2r19q6) rfl (by kernel_rfl) (fun _ _ _ h => h) (by rfl) hHeld ?h2r19q6 ?_
          case h2r19q6 => (intro w' hSw; (try dsimp only at hSw); go_simp; try with_reducible rfl)
          (try simp only [Act.put, List.setIfInBounds_toArray, List.set_cons_zero, List.set_cons_succ])
          refine wpAnyT_take (i := 3) (oi := { dst := some 91, op := Op.nilCheck (Operand.tmp 90), type := 0, pos := "law.go:85", after := #[{ on := 2, ground := Ground.data }], guard := none }) (v := ?v3r19q6) rfl (by kernel_rfl) (fun _ _ _ h => h) (by rfl) hHeld ?h3r19q6 ?_
          case h3r19q6 => (intro w' hSw; (try dsimp only at hSw); go_simp; try with_reducible rfl)
          (try simp only [Act.put, List.setIfInBounds_toArray, List.set_cons_zero, List.set_cons_succ])
          refine wpAnyT_take (i := 4) (oi := { dst := some 92, op := Op.fieldAddr 39 (Operand.tmp 91) 2, type := 0, pos := "law.go:85", after := #[{ on := 3, ground := Ground.data }], guard := none }) (v := ?v4r19q6) rfl (by kernel_rfl) (fun _ _ _ h => h) (by rfl) hHeld ?h4r19q6 ?_
          case h4r19q6 => (intro w' hSw; (try dsimp only at hSw); go_simp; try with_reducible rfl)
          (try simp only [Act.put, List.setIfInBounds_toArray, List.set_cons_zero, List.set_cons_succ])
          refine wpAnyT_take (i := 5) (oi := { dst := some 93, op := Op.load 37 (Operand.tmp 92), type := 37, pos := "law.go:85", after := #[{ on := 4, ground := Ground.data }], guard := none }) (v := ?v5r19q6) rfl (by kernel_rfl) (fun _ _ _ h => h) (by rfl) hHeld ?h5r19q6 ?_
          case h5r19q6 => (intro w' hSw; (try dsimp only at hSw); go_simp; try with_reducible rfl)
          (try simp only [Act.put, List.setIfInBounds_toArray, List.set_cons_zero, List.set_cons_succ])
          clear hHeld
          refine wpAnyT_one (i := 1) (o := { dst := some 89, op := Op.call { callee := Callee.value (Operand.func 13), args := #[Operand.tmp 88], argTypes := #[25] }, type := 37, pos := "law.go:85", after := #[{ on := 0, ground := Ground.data }], guard := none }) rfl (by kernel_rfl) (fun K hK => ?_)
          go_simp
          go_at_call 13
          refine (HGA.out _ (Below.refl wr.heap.size wr).drew).mono ?_
          rintro e w5 ⟨hb5, v5, rfl, ho5⟩
          obtain ⟨A5, c5, hv5⟩ := own_slice_k ho5
          subst hv5
          have HB5 := Lib.hid (bt (Below.refl wr.heap.size wr).drew (Nat.le_refl _) hb5)
          have HO5 := Lib.hid ho5
          refine hK.out _ _ (fun _ => HCX.out _ HB5.out) ?_
          clear hK K hb5 ho5
          (try simp only [Act.put, List.setIfInBounds_toArray, List.set_cons_zero, List.set_cons_succ])
          refine wpAnyT_one (i := 6) (o := { dst := some 94, op := Op.call { callee := Callee.value (Operand.func 14), args := #[Operand.tmp 89, Operand.tmp 93], argTypes := #[37, 37] }, type := 4, pos := "law.go:85", after := #[{ on := 1, ground := Ground.data }, { on := 5, ground := Ground.data }, { on := 1, ground := Ground.chain }], guard := none }) rfl (by kernel_rfl) (fun K hK => ?_)
          go_simp
          go_at_call 14
          refine (sameAndsH_any w5 _ _ b.tris b.tris (own_rowe (t := 43) lenT (by rw [tris_len, HN4.out]; exact HO5.out)) (HRW4.out _ HB5.out)).mono ?_
          rintro e w6 ⟨rfl, hb6⟩
          rw [decide_eq_true (rfl : b.tris = b.tris)]
          have HB6 := Lib.hid (bt HB5.out (Nat.le_refl _) hb6)
          refine hK.out _ _ (fun _ => HCX.out _ HB6.out) ?_
          clear hK K hb6
          (try simp only [Act.put, List.setIfInBounds_toArray, List.set_cons_zero, List.set_cons_succ])
          have hHeld := HCX.out _ HB6.out
          refine wpAnyT_take (i := 7) (oi := { dst := some 95, op := Op.move (Operand.tmp 94), type := 4, pos := "law.go:85", after := #[{ on := 6, ground := Ground.data }, { on := 6, ground := Ground.chain }], guard := none }) (v := ?v7r19q7) rfl (by kernel_rfl) (fun _ _ _ h => h) (by rfl) hHeld ?h7r19q7 ?_
          case h7r19q7 => (intro w' hSw; (try dsimp only at hSw); go_simp; try with_reducible rfl)
          (try simp only [Act.put, List.setIfInBounds_toArray, List.set_cons_zero, List.set_cons_succ])
          clear hHeld
          refine wpAnyT_one (i := 8) (o := { dst := some 96, op := Op.call { callee := Callee.value (Operand.func 10), args := #[], argTypes := #[] }, type := 4, pos := "law.go:85", after := #[{ on := 7, ground := Ground.chain }, { on := 7, ground := Ground.guard }], guard := some (7, true) }) rfl (by kernel_rfl) (fun K hK => ?_)
          go_simp
          go_at_call 10
          refine (HWK.out w6).mono ?_
          rintro e w7 ⟨rfl, hb7⟩
          have HB7 := Lib.hid (bt HB6.out (Nat.le_refl _) hb7)
          refine hK.out _ _ (fun _ => HCX.out _ HB7.out) ?_
          clear hK K hb7
          (try simp only [Act.put, List.setIfInBounds_toArray, List.set_cons_zero, List.set_cons_succ])
          have hHeld := HCX.out _ HB7.out
          refine wpAnyT_take (i := 9) (oi := { dst := some 97, op := Op.pick (Operand.tmp 95) (Operand.tmp 96) (Operand.const (Value.bool false)), type := 4, pos := "law.go:85", after := #[{ on := 7, ground := Ground.data }, { on := 8, ground := Ground.data }], guard := none }) (v := ?v9r19q8) rfl (by kernel_rfl) (fun _ _ _ h => h) (by rfl) hHeld ?h9r19q8 ?_
          case h9r19q8 => (intro w' hSw; (try dsimp only at hSw); go_simp; try with_reducible rfl)
          (try simp only [Act.put, List.setIfInBounds_toArray, List.set_cons_zero, List.set_cons_succ])
          refine wpAnyT_take (i := 10) (oi := { dst := some 4, op := Op.assign (Operand.tmp 97), type := 4, pos := "law.go:85", after := #[{ on := 9, ground := Ground.data }, { on := 8, ground := Ground.chain }, { on := 0, ground := Ground.phase }, { on := 1, ground := Ground.phase }, { on := 2, ground := Ground.phase }, { on := 3, ground := Ground.phase }, { on := 4, ground := Ground.phase }, { on := 5, ground := Ground.phase }, { on := 6, ground := Ground.phase }, { on := 7, ground := Ground.phase }, { on := 8, ground := Ground.phase }, { on := 9, ground := Ground.phase }], guard := none }) (v := ?v10r19q8) rfl (by kernel_rfl) (fun _ _ _ h => h) (by rfl) hHeld ?h10r19q8 ?_
          case h10r19q8 => (intro w' hSw; (try dsimp only at hSw); go_simp; try with_reducible rfl)
          (try simp only [Act.put, List.setIfInBounds_toArray, List.set_cons_zero, List.set_cons_succ])
          clear hHeld
          refine wpAnyT_done (by kernel_rfl) ?_
          go_wp2
          go_ret
          exact ⟨rfl, bt HBW.out (Nat.le_refl _) HB7.out⟩
      · have hqi : ¬ (q : Int) < (nA : Int) := by omega
        obtain ⟨F4, G4, h4, r4, _, _, _⟩ := HTW.out
        obtain ⟨A4, c4, bx4, rw4⟩ := r4.cells
        obtain ⟨n4, hn4⟩ : ∃ n, b.g.length = n := ⟨_, rfl⟩
        rw [hn4] at bx4 rw4
        have HN4 := Lib.hid hn4
        have HCX : Hid (∀ wz, Below wr.heap.size wr wz → wz.cell? ⟨cx, 2, none⟩ = some (.slice A4 n4 c4)) := Lib.hid (fun wz hb => by
          have := (bx4.below hb bx4.lt).cell 2
          simpa only [List.getElem?_toArray, List.getElem?_cons_zero, List.getElem?_cons_succ] using this)
        have HRW4 : Hid (∀ wz, Below wr.heap.size wr wz → RowE 3 encT wz (.slice A4 n4 c4) b.tris) := Lib.hid (fun wz hb => rw4.below hb)
        have HGA : Hid (∀ wz, Below wr.heap.size wr wz → Calls Try.prog 13 #[.pointer (some ⟨bx, 0, none⟩)] wz fun e w' => Below wz.heap.size wz w' ∧ ∃ v, e = .returned v ∧ w'.ownsRow wz.heap.size 43 3 v n4 (b.tris.flatMap encT)) := Lib.hid (fun wz hb => by have := hGates_any wz bx b F4 (h4.below hb); rwa [tris_len, hn4] at this)
        clear h4 r4 bx4 rw4 hn4 hbw htw HTW
        go_upto_region 19 with (fail)
        refine wp_region_T (by kernel_rfl) (fun w' => w'.cell? ⟨cx, 2, none⟩ = some (.slice A4 n4 c4)) 11 ?_
        have hHeld := HCX.out _ (Below.refl wr.heap.size wr).drew
        refine wpAnyT_take (i := 0) (oi := { dst := some 88, op := Op.move (Operand.tmp 5), type := 25, pos := "law.go:85", after := #[], guard := none }) (v := ?v0r19q9) rfl (by kernel_rfl) (fun _ _ _ h => h) (by rfl) hHeld ?h0r19q9 ?_
        case h0r19q9 => (intro w' hSw; (try dsimp only at hSw); go_simp; try with_reducible rfl)
        (try simp only [Act.put, List.setIfInBounds_toArray, List.set_cons_zero, List.set_cons_succ])
        refine wpAnyT_take (i := 2) (oi := { dst := some 90, op := Op.move (Operand.tmp 7), type := 29, pos := "law.go:85", after := #[], guard := none }) (v := ?v2r19q10) rfl (by kernel_rfl) (fun _ _ _ h => h) (by rfl) hHeld ?h2r19q10 ?_
        case h2r19q10 => (intro w' hSw; (try dsimp only at hSw); go_simp; try with_reducible rfl)
        (try simp only [Act.put, List.setIfInBounds_toArray, List.set_cons_zero, List.set_cons_succ])
        refine wpAnyT_take (i := 3) (oi := { dst := some 91, op := Op.nilCheck (Operand.tmp 90), type := 0, pos := "law.go:85", after := #[{ on := 2, ground := Ground.data }], guard := none }) (v := ?v3r19q10) rfl (by kernel_rfl) (fun _ _ _ h => h) (by rfl) hHeld ?h3r19q10 ?_
        case h3r19q10 => (intro w' hSw; (try dsimp only at hSw); go_simp; try with_reducible rfl)
        (try simp only [Act.put, List.setIfInBounds_toArray, List.set_cons_zero, List.set_cons_succ])
        refine wpAnyT_take (i := 4) (oi := { dst := some 92, op := Op.fieldAddr 39 (Operand.tmp 91) 2, type := 0, pos := "law.go:85", after := #[{ on := 3, ground := Ground.data }], guard := none }) (v := ?v4r19q10) rfl (by kernel_rfl) (fun _ _ _ h => h) (by rfl) hHeld ?h4r19q10 ?_
        case h4r19q10 => (intro w' hSw; (try dsimp only at hSw); go_simp; try with_reducible rfl)
        (try simp only [Act.put, List.setIfInBounds_toArray, List.set_cons_zero, List.set_cons_succ])
        refine wpAnyT_take (i := 5) (oi := { dst := some 93, op := Op.load 37 (Operand.tmp 92), type := 37, pos := "law.go:85", after := #[{ on := 4, ground := Ground.data }], guard := none }) (v := ?v5r19q10) rfl (by kernel_rfl) (fun _ _ _ h => h) (by rfl) hHeld ?h5r19q10 ?_
        case h5r19q10 => (intro w' hSw; (try dsimp only at hSw); go_simp; try with_reducible rfl)
        (try simp only [Act.put, List.setIfInBounds_toArray, List.set_cons_zero, List.set_cons_succ])
        clear hHeld
        refine wpAnyT_one (i := 1) (o := { dst := some 89, op := Op.call { callee := Callee.value (Operand.func 13), args := #[Operand.tmp 88], argTypes := #[25] }, type := 37, pos := "law.go:85", after := #[{ on := 0, ground := Ground.data }], guard := none }) rfl (by kernel_rfl) (fun K hK => ?_)
        go_simp
        go_at_call 13
        refine (HGA.out _ (Below.refl wr.heap.size wr).drew).mono ?_
        rintro e w5 ⟨hb5, v5, rfl, ho5⟩
        obtain ⟨A5, c5, hv5⟩ := own_slice_k ho5
        subst hv5
        have HB5 := Lib.hid (bt (Below.refl wr.heap.size wr).drew (Nat.le_refl _) hb5)
        have HO5 := Lib.hid ho5
        refine hK.out _ _ (fun _ => HCX.out _ HB5.out) ?_
        clear hK K hb5 ho5
        (try simp only [Act.put, List.setIfInBounds_toArray, List.set_cons_zero, List.set_cons_succ])
        refine wpAnyT_one (i := 6) (o := { dst := some 94, op := Op.call { callee := Callee.value (Operand.func 14), args := #[Operand.tmp 89, Operand.tmp 93], argTypes := #[37, 37] }, type := 4, pos := "law.go:85", after := #[{ on := 1, ground := Ground.data }, { on := 5, ground := Ground.data }, { on := 1, ground := Ground.chain }], guard := none }) rfl (by kernel_rfl) (fun K hK => ?_)
        go_simp
        go_at_call 14
        refine (sameAndsH_any w5 _ _ b.tris b.tris (own_rowe (t := 43) lenT (by rw [tris_len, HN4.out]; exact HO5.out)) (HRW4.out _ HB5.out)).mono ?_
        rintro e w6 ⟨rfl, hb6⟩
        rw [decide_eq_true (rfl : b.tris = b.tris)]
        have HB6 := Lib.hid (bt HB5.out (Nat.le_refl _) hb6)
        refine hK.out _ _ (fun _ => HCX.out _ HB6.out) ?_
        clear hK K hb6
        (try simp only [Act.put, List.setIfInBounds_toArray, List.set_cons_zero, List.set_cons_succ])
        have hHeld := HCX.out _ HB6.out
        refine wpAnyT_take (i := 7) (oi := { dst := some 95, op := Op.move (Operand.tmp 94), type := 4, pos := "law.go:85", after := #[{ on := 6, ground := Ground.data }, { on := 6, ground := Ground.chain }], guard := none }) (v := ?v7r19q11) rfl (by kernel_rfl) (fun _ _ _ h => h) (by rfl) hHeld ?h7r19q11 ?_
        case h7r19q11 => (intro w' hSw; (try dsimp only at hSw); go_simp; try with_reducible rfl)
        (try simp only [Act.put, List.setIfInBounds_toArray, List.set_cons_zero, List.set_cons_succ])
        clear hHeld
        refine wpAnyT_one (i := 8) (o := { dst := some 96, op := Op.call { callee := Callee.value (Operand.func 10), args := #[], argTypes := #[] }, type := 4, pos := "law.go:85", after := #[{ on := 7, ground := Ground.chain }, { on := 7, ground := Ground.guard }], guard := some (7, true) }) rfl (by kernel_rfl) (fun K hK => ?_)
        go_simp
        go_at_call 10
        refine (HWK.out w6).mono ?_
        rintro e w7 ⟨rfl, hb7⟩
        have HB7 := Lib.hid (bt HB6.out (Nat.le_refl _) hb7)
        refine hK.out _ _ (fun _ => HCX.out _ HB7.out) ?_
        clear hK K hb7
        (try simp only [Act.put, List.setIfInBounds_toArray, List.set_cons_zero, List.set_cons_succ])
        have hHeld := HCX.out _ HB7.out
        refine wpAnyT_take (i := 9) (oi := { dst := some 97, op := Op.pick (Operand.tmp 95) (Operand.tmp 96) (Operand.const (Value.bool false)), type := 4, pos := "law.go:85", after := #[{ on := 7, ground := Ground.data }, { on := 8, ground := Ground.data }], guard := none }) (v := ?v9r19q12) rfl (by kernel_rfl) (fun _ _ _ h => h) (by rfl) hHeld ?h9r19q12 ?_
        case h9r19q12 => (intro w' hSw; (try dsimp only at hSw); go_simp; try with_reducible rfl)
        (try simp only [Act.put, List.setIfInBounds_toArray, List.set_cons_zero, List.set_cons_succ])
        refine wpAnyT_take (i := 10) (oi := { dst := some 4, op := Op.assign (Operand.tmp 97), type := 4, pos := "law.go:85", after := #[{ on := 9, ground := Ground.data }, { on := 8, ground := Ground.chain }, { on := 0, ground := Ground.phase }, { on := 1, ground := Ground.phase }, { on := 2, ground := Ground.phase }, { on := 3, ground := Ground.phase }, { on := 4, ground := Ground.phase }, { on := 5, ground := Ground.phase }, { on := 6, ground := Ground.phase }, { on := 7, ground := Ground.phase }, { on := 8, ground := Ground.phase }, { on := 9, ground := Ground.phase }], guard := none }) (v := ?v10r19q12) rfl (by kernel_rfl) (fun _ _ _ h => h) (by rfl) hHeld ?h10r19q12 ?_
        case h10r19q12 => (intro w' hSw; (try dsimp only at hSw); go_simp; try with_reducible rfl)
        (try simp only [Act.put, List.setIfInBounds_toArray, List.set_cons_zero, List.set_cons_succ])
        clear hHeld
        refine wpAnyT_done (by kernel_rfl) ?_
        go_wp2
        go_ret
        exact ⟨rfl, bt HBW.out (Nat.le_refl _) HB7.out⟩
end Go.Proofs.Ytbeaicmjohlboab

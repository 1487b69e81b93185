/- The contract of Check: what is wrong with a circuit first, of any circuit. -/
import Derived.Test.YtfbnhkndlohalaaFits
namespace Go.Proofs.Ytfbnhkndlohalaa
open Go.RowKit

theorem box_cells {w w' : World} {m : Int} {Vi Vl Vo Vb Vc Vj Vf Va Vs Vt : Value} (hb : Below (w.alloc (.cells #[.int .i64 m, Vi, Vl, Vo, Vb, Vc, Vj, Vf, Va, Vs, Vt] 29)).heap.size (w.alloc (.cells #[.int .i64 m, Vi, Vl, Vo, Vb, Vc, Vj, Vf, Va, Vs, Vt] 29)) w') :
    w'.cell? ⟨w.heap.size, 0, none⟩ = some (.int .i64 m) ∧ w'.cell? ⟨w.heap.size, 1, none⟩ = some Vi ∧ w'.cell? ⟨w.heap.size, 2, none⟩ = some Vl ∧ w'.cell? ⟨w.heap.size, 3, none⟩ = some Vo ∧ w'.cell? ⟨w.heap.size, 4, none⟩ = some Vb ∧ w'.cell? ⟨w.heap.size, 5, none⟩ = some Vc ∧ w'.cell? ⟨w.heap.size, 6, none⟩ = some Vj ∧ w'.cell? ⟨w.heap.size, 7, none⟩ = some Vf ∧ w'.cell? ⟨w.heap.size, 8, none⟩ = some Va ∧ w'.cell? ⟨w.heap.size, 9, none⟩ = some Vs ∧ w'.cell? ⟨w.heap.size, 10, none⟩ = some Vt := by
  have h := (Blk.new w 29 #[.int .i64 m, Vi, Vl, Vo, Vb, Vc, Vj, Vf, Va, Vs, Vt]).below hb (by simp)
  exact ⟨h.cell 0, h.cell 1, h.cell 2, h.cell 3, h.cell 4, h.cell 5, h.cell 6, h.cell 7, h.cell 8, h.cell 9, h.cell 10⟩
theorem ret_check {k k' : IntKind} {a b : Int} {r : Int × Int} (h : r = (a, b)) : Ending.returned (.tuple #[.int k a, .int k' b]) = .returned (.tuple #[.int k r.1, .int k' r.2]) := by rw [h]
section
variable {C : Circ}
theorem checkR_size (h : sizesE C ≠ 0) : checkR C = (0, sizesE C) := if_pos h
theorem checkR_def {p : Int × Int} {t : List Bool} (h : sizesE C = 0) (hd : defR C (tab0 C.max.toNat) = (p, t)) (h0 : p.2 ≠ 0) : checkR C = p := by unfold checkR; rw [if_neg (by simp [h]), hd]; exact if_pos h0
theorem checkR_use {d p : Int × Int} {t : List Bool} (h : sizesE C = 0) (hd : defR C (tab0 C.max.toNat) = (d, t)) (h0 : d.2 = 0) (hu : usedR C t = p) (h1 : p.2 ≠ 0) : checkR C = p := by unfold checkR; rw [if_neg (by simp [h]), hd, if_neg (by simp [h0]), hu]; exact if_pos h1
theorem checkR_round {d p : Int × Int} {t : List Bool} {f : Int} (h : sizesE C = 0) (hd : defR C (tab0 C.max.toNat) = (d, t)) (h0 : d.2 = 0) (hu : usedR C t = p) (h1 : p.2 = 0) (hf : firstF (usesC C) = f) (h2 : f ≠ -1) : checkR C = (f, 34) := by unfold checkR; rw [if_neg (by simp [h]), hd, if_neg (by simp [h0]), hu, if_neg (by simp [h1]), hf]; exact if_pos h2
theorem checkR_sym {d p s : Int × Int} {t : List Bool} (h : sizesE C = 0) (hd : defR C (tab0 C.max.toNat) = (d, t)) (h0 : d.2 = 0) (hu : usedR C t = p) (h1 : p.2 = 0) (hf : firstF (usesC C) = -1) (hs : symR C = s) (h3 : s.2 ≠ 0) : checkR C = s := by unfold checkR; rw [if_neg (by simp [h]), hd, if_neg (by simp [h0]), hu, if_neg (by simp [h1]), hf, if_neg (by simp), hs]; exact if_pos h3
theorem checkR_comm {d p s c : Int × Int} {t : List Bool} (h : sizesE C = 0) (hd : defR C (tab0 C.max.toNat) = (d, t)) (h0 : d.2 = 0) (hu : usedR C t = p) (h1 : p.2 = 0) (hf : firstF (usesC C) = -1) (hs : symR C = s) (h3 : s.2 = 0) (hc : commR C = c) : checkR C = c := by unfold checkR; rw [if_neg (by simp [h]), hd, if_neg (by simp [h0]), hu, if_neg (by simp [h1]), hf, if_neg (by simp), hs, if_neg (by simp [h3]), hc]
end

set_option maxHeartbeats 4000000 in
set_option maxRecDepth 100000 in
theorem Check_any (w : World) (V : CV) (C : Circ) (h : C.In w V) (ok : C.Ok) :
    Calls Try.prog 32 #[V.val C.max] w fun e w' => e = .returned (.tuple #[.int .i64 (checkR C).1, .int .i64 (checkR C).2]) ∧ Below w.heap.size w w' := by
  have HB := Lib.hid ((Below.refl w.heap.size w).alloc (Nat.le_refl _) (.cells (V.cells C.max) 29))
  have hin := h.below HB.out
  have HR := Lib.hid (Below.refl (w.alloc (.cells (V.cells C.max) 29)).heap.size (w.alloc (.cells (V.cells C.max) 29)))
  have HIN := Lib.hid hin
  have HOK := Lib.hid ok
  have HEND := Lib.hid (fun (wx : World) (hx : Below (w.alloc (.cells (V.cells C.max) 29)).heap.size (w.alloc (.cells (V.cells C.max) 29)) wx) => HB.out.trans (hx.mono (by simp)))
  have hsize := fun (wx : World) (hx : C.In wx V) => checkSizes_any wx V C hx
  have hdef := fun (wx : World) (g : Nat) (tb : List Bool) hb hg ht hl => checkDefined_any (w.alloc (.cells (V.cells C.max) 29)) wx V C hin ok g tb hb hg ht hl
  have huse := fun (wx : World) (g : Nat) (tb : List Bool) hb ht hl => checkUsed_any (w.alloc (.cells (V.cells C.max) 29)) wx V C hin ok g tb hb ht hl
  have huses := fun (wx : World) (hx : C.In wx V) h0 h1 h2 h3 => usesOf_any wx V C hx h0 h1 h2 h3
  have hsym := fun (wx : World) (hx : C.In wx V) h2 => checkSymbols_any wx V C hx ok ok.sn h2
  have hcom := fun (wx : World) (hx : C.In wx V) => checkComments_any wx V C hx
  have HSIZE := Lib.hid hsize
  have HDEF := Lib.hid hdef
  have HUSE := Lib.hid huse
  have HUSES := Lib.hid huses
  have HSYM := Lib.hid hsym
  have HCOM := Lib.hid hcom
  clear h hin ok hsize hdef huse huses hsym hcom HB
  obtain ⟨Vi, Vl, Vo, Vb, Vc, Vj, Vf, Va, Vs, Vt⟩ := V
  obtain ⟨s, hs⟩ : ∃ s, sizesE C = s := ⟨_, rfl⟩
  have HS := Lib.hid hs
  obtain ⟨r, hr⟩ : ∃ r, checkR C = r := ⟨_, rfl⟩
  have HRR := Lib.hid hr
  rw [hr]
  clear hs hr
  by_cases h0 : s = 0
  · subst h0
    have hso := sizes_ok HS.out
    obtain ⟨m, hmm⟩ : ∃ m : Nat, C.max = (m : Int) := ⟨C.max.toNat, by omega⟩
    have hm : m ≤ 16384 := by omega
    have HM0 := Lib.hid hso.1
    have HM1 := Lib.hid hso.2.1
    have HM2 := Lib.hid hso.2.2.1
    have HM3 := Lib.hid hso.2.2.2
    have hmt : C.max.toNat = m := by rw [hmm]; rfl
    have HMT := Lib.hid hmt
    have HMM := Lib.hid hmm
    have hnt : ∀ wx : World, Calls Try.prog 52 #[.int .i64 C.max] wx fun e w' => ∃ g, e = .returned (.slice (some ⟨g, 0, none⟩) (m + 1) (m + 1)) ∧ wx.heap.size ≤ g ∧ Below wx.heap.size wx w' ∧ Tab w' g (tab0 m) := fun wx => by rw [hmm]; exact newTable_any wx m hm
    have HNT := Lib.hid hnt
    clear hso hmt hnt hmm
    obtain ⟨⟨d1, d2⟩, td, hd⟩ : ∃ d td, defR C (tab0 m) = (d, td) := ⟨_, _, rfl⟩
    have HD := Lib.hid hd
    have HD' : Hid (defR C (tab0 C.max.toNat) = ((d1, d2), td)) := Lib.hid (by rw [HMT.out]; exact hd)
    have hdf := fun (wx : World) (g : Nat) hb hg ht => HDEF.out wx g (tab0 m) hb hg ht (by rw [tab0_len]; omega)
    rw [tab0_len] at hdf
    have HDF := Lib.hid hdf
    clear hdf
    have HTD : Hid (td.length = m + 1) := Lib.hid (by have := defR_len C (tab0 m); rw [hd, tab0_len] at this; exact this)
    clear hd
    by_cases h0 : d2 = 0
    · subst h0
      have HD0 : Hid ((defR C (tab0 m)).1.2 = 0) := Lib.hid (by rw [HD.out])
      obtain ⟨⟨u1, u2⟩, hu⟩ : ∃ u, usedR C td = u := ⟨_, rfl⟩
      have HU := Lib.hid hu
      have hus := fun (wx : World) (g : Nat) hb ht => HUSE.out wx g td hb ht (by rw [HTD.out]; omega)
      rw [HTD.out] at hus
      have HUS := Lib.hid hus
      clear hu hus
      by_cases h0 : u2 = 0
      · subst h0
        have HFIT : Hid (∀ z ∈ C.ands, FitT C.max z) := Lib.hid (fit_of (tb := tab0 m) (t2 := td) HD0.out (by rw [HU.out]) (by rw [tab0_len, HMM.out]; push_cast; rfl) (by rw [HTD.out, tab0_len]))
        have HFR : Hid (∀ (wx : World) (g2 : Nat), Prs wx g2 (usesC C) → Calls Try.prog 55 #[.slice (some ⟨g2, 0, none⟩) C.ands.length C.ands.length] wx fun e w' => e = .returned (.int .i64 (firstF (usesC C))) ∧ Below wx.heap.size wx w') := Lib.hid (fun wx g2 hp => by
          have hl : (usesC C).length = C.ands.length := by simp [usesC]
          have := firstRound_any wx g2 (usesC C) hp (usesC_ok HM0.out HFIT.out) (by rw [hl]; exact HM2.out)
          rwa [hl] at this)
        obtain ⟨f, hf⟩ : ∃ f, firstF (usesC C) = f := ⟨_, rfl⟩
        have HF := Lib.hid hf
        clear hf
        by_cases h0 : f = -1
        · subst h0
          obtain ⟨⟨y1, y2⟩, hy⟩ : ∃ y, symR C = y := ⟨_, rfl⟩
          have HSY := Lib.hid hy
          clear hy
          by_cases h0 : y2 = 0
          · subst h0
            obtain ⟨⟨c1, c2⟩, hc⟩ : ∃ c, commR C = c := ⟨_, rfl⟩
            have HCO := Lib.hid hc
            clear hc
            have HRS := Lib.hid (checkR_comm HS.out HD'.out rfl HU.out rfl HF.out HSY.out rfl HCO.out)
            go_enter Try.func32, Try.ntmps32
            go_wp2_with (first | (go_at_call 51; refine (HSIZE.out _ HIN.out).mono ?_; rw [HS.out]; rintro e w1 ⟨rfl, hb⟩; have hx1 := bt HR.out (Nat.le_refl _) hb; have HX1 := Lib.hid hx1; obtain ⟨b0, b1, b2, b3, b4, b5, b6, b7, b8, b9, b10⟩ := box_cells hx1; clear hx1 hb) | (go_at_call 52; refine (HNT.out _).mono ?_; rintro e w2 ⟨g, rfl, hg, hb, ht⟩; have HG := Lib.hid (Nat.le_trans HX1.out.size hg); have HT := Lib.hid ht; clear hg ht; have hx2 := bt HX1.out (Nat.le_refl _) hb; have HX2 := Lib.hid hx2; obtain ⟨b0, b1, b2, b3, b4, b5, b6, b7, b8, b9, b10⟩ := box_cells hx2; clear hx2 hb) | (go_at_call 53; refine (HDF.out _ g HX2.out HG.out HT.out).mono ?_; rw [HD.out]; rintro e w3 ⟨rfl, hb3, ht3⟩; have HX3 := Lib.hid hb3; have HT3 := Lib.hid ht3; obtain ⟨b0, b1, b2, b3, b4, b5, b6, b7, b8, b9, b10⟩ := box_cells hb3; clear hb3 ht3) | (go_at_call 54; refine (HUS.out _ g HX3.out (HT3.out (by first | rfl | trivial))).mono ?_; rw [HU.out]; rintro e w4 ⟨rfl, hb⟩; have hx4 := bt HX3.out (Nat.le_refl _) hb; have HX4 := Lib.hid hx4; obtain ⟨b0, b1, b2, b3, b4, b5, b6, b7, b8, b9, b10⟩ := box_cells hx4; clear hx4 hb) | (go_at_call 34; refine (HUSES.out _ (HIN.out.below HX4.out) HM0.out HM1.out HM2.out HFIT.out).mono ?_; rintro e w5 ⟨g2, rfl, hg2, hb, hp2⟩; have HP2 := Lib.hid hp2; clear hg2 hp2; have hx5 := bt HX4.out (Nat.le_refl _) hb; have HX5 := Lib.hid hx5; obtain ⟨b0, b1, b2, b3, b4, b5, b6, b7, b8, b9, b10⟩ := box_cells hx5; clear hx5 hb) | (go_at_call 55; refine (HFR.out _ g2 HP2.out).mono ?_; rw [HF.out]; rintro e w6 ⟨rfl, hb⟩; have hx6 := bt HX5.out (Nat.le_refl _) hb; have HX6 := Lib.hid hx6; obtain ⟨b0, b1, b2, b3, b4, b5, b6, b7, b8, b9, b10⟩ := box_cells hx6; clear hx6 hb) | (go_at_call 56; refine (HSYM.out _ (HIN.out.below HX6.out) HM3.out).mono ?_; rw [HSY.out]; rintro e w7 ⟨rfl, hb⟩; have hx7 := bt HX6.out (Nat.le_refl _) hb; have HX7 := Lib.hid hx7; obtain ⟨b0, b1, b2, b3, b4, b5, b6, b7, b8, b9, b10⟩ := box_cells hx7; clear hx7 hb) | (go_at_call 57; refine (HCOM.out _ (HIN.out.below HX7.out)).mono ?_; rw [HCO.out]; rintro e w8 ⟨rfl, hb⟩; have hx8 := bt HX7.out (Nat.le_refl _) hb; have HX8 := Lib.hid hx8; obtain ⟨b0, b1, b2, b3, b4, b5, b6, b7, b8, b9, b10⟩ := box_cells hx8; clear hx8 hb))
            go_ret2
            exact ⟨ret_check (by rw [← HRR.out, HRS.out]), HEND.out _ HX8.out⟩
          · have HRS := Lib.hid (checkR_sym HS.out HD'.out rfl HU.out rfl HF.out HSY.out h0)
            have q1 : (y2 == 0) = false := by simpa using h0
            have q2 : (y2 != 0) = true := by simpa using h0
            clear h0
            go_enter Try.func32, Try.ntmps32
            go_wp2_with (first | (go_at_call 51; refine (HSIZE.out _ HIN.out).mono ?_; rw [HS.out]; rintro e w1 ⟨rfl, hb⟩; have hx1 := bt HR.out (Nat.le_refl _) hb; have HX1 := Lib.hid hx1; obtain ⟨b0, b1, b2, b3, b4, b5, b6, b7, b8, b9, b10⟩ := box_cells hx1; clear hx1 hb) | (go_at_call 52; refine (HNT.out _).mono ?_; rintro e w2 ⟨g, rfl, hg, hb, ht⟩; have HG := Lib.hid (Nat.le_trans HX1.out.size hg); have HT := Lib.hid ht; clear hg ht; have hx2 := bt HX1.out (Nat.le_refl _) hb; have HX2 := Lib.hid hx2; obtain ⟨b0, b1, b2, b3, b4, b5, b6, b7, b8, b9, b10⟩ := box_cells hx2; clear hx2 hb) | (go_at_call 53; refine (HDF.out _ g HX2.out HG.out HT.out).mono ?_; rw [HD.out]; rintro e w3 ⟨rfl, hb3, ht3⟩; have HX3 := Lib.hid hb3; have HT3 := Lib.hid ht3; obtain ⟨b0, b1, b2, b3, b4, b5, b6, b7, b8, b9, b10⟩ := box_cells hb3; clear hb3 ht3) | (go_at_call 54; refine (HUS.out _ g HX3.out (HT3.out (by first | rfl | trivial))).mono ?_; rw [HU.out]; rintro e w4 ⟨rfl, hb⟩; have hx4 := bt HX3.out (Nat.le_refl _) hb; have HX4 := Lib.hid hx4; obtain ⟨b0, b1, b2, b3, b4, b5, b6, b7, b8, b9, b10⟩ := box_cells hx4; clear hx4 hb) | (go_at_call 34; refine (HUSES.out _ (HIN.out.below HX4.out) HM0.out HM1.out HM2.out HFIT.out).mono ?_; rintro e w5 ⟨g2, rfl, hg2, hb, hp2⟩; have HP2 := Lib.hid hp2; clear hg2 hp2; have hx5 := bt HX4.out (Nat.le_refl _) hb; have HX5 := Lib.hid hx5; obtain ⟨b0, b1, b2, b3, b4, b5, b6, b7, b8, b9, b10⟩ := box_cells hx5; clear hx5 hb) | (go_at_call 55; refine (HFR.out _ g2 HP2.out).mono ?_; rw [HF.out]; rintro e w6 ⟨rfl, hb⟩; have hx6 := bt HX5.out (Nat.le_refl _) hb; have HX6 := Lib.hid hx6; obtain ⟨b0, b1, b2, b3, b4, b5, b6, b7, b8, b9, b10⟩ := box_cells hx6; clear hx6 hb) | (go_at_call 56; refine (HSYM.out _ (HIN.out.below HX6.out) HM3.out).mono ?_; rw [HSY.out]; rintro e w7 ⟨rfl, hb⟩; have hx7 := bt HX6.out (Nat.le_refl _) hb; have HX7 := Lib.hid hx7; obtain ⟨b0, b1, b2, b3, b4, b5, b6, b7, b8, b9, b10⟩ := box_cells hx7; clear hx7 hb))
            go_ret2
            exact ⟨ret_check (by rw [← HRR.out, HRS.out]), HEND.out _ HX7.out⟩
        · have HRS := Lib.hid (checkR_round HS.out HD'.out rfl HU.out rfl HF.out h0)
          have q1 : (f == -1) = false := by simpa using h0
          have q2 : (f != -1) = true := by simpa using h0
          clear h0
          go_enter Try.func32, Try.ntmps32
          go_wp2_with (first | (go_at_call 51; refine (HSIZE.out _ HIN.out).mono ?_; rw [HS.out]; rintro e w1 ⟨rfl, hb⟩; have hx1 := bt HR.out (Nat.le_refl _) hb; have HX1 := Lib.hid hx1; obtain ⟨b0, b1, b2, b3, b4, b5, b6, b7, b8, b9, b10⟩ := box_cells hx1; clear hx1 hb) | (go_at_call 52; refine (HNT.out _).mono ?_; rintro e w2 ⟨g, rfl, hg, hb, ht⟩; have HG := Lib.hid (Nat.le_trans HX1.out.size hg); have HT := Lib.hid ht; clear hg ht; have hx2 := bt HX1.out (Nat.le_refl _) hb; have HX2 := Lib.hid hx2; obtain ⟨b0, b1, b2, b3, b4, b5, b6, b7, b8, b9, b10⟩ := box_cells hx2; clear hx2 hb) | (go_at_call 53; refine (HDF.out _ g HX2.out HG.out HT.out).mono ?_; rw [HD.out]; rintro e w3 ⟨rfl, hb3, ht3⟩; have HX3 := Lib.hid hb3; have HT3 := Lib.hid ht3; obtain ⟨b0, b1, b2, b3, b4, b5, b6, b7, b8, b9, b10⟩ := box_cells hb3; clear hb3 ht3) | (go_at_call 54; refine (HUS.out _ g HX3.out (HT3.out (by first | rfl | trivial))).mono ?_; rw [HU.out]; rintro e w4 ⟨rfl, hb⟩; have hx4 := bt HX3.out (Nat.le_refl _) hb; have HX4 := Lib.hid hx4; obtain ⟨b0, b1, b2, b3, b4, b5, b6, b7, b8, b9, b10⟩ := box_cells hx4; clear hx4 hb) | (go_at_call 34; refine (HUSES.out _ (HIN.out.below HX4.out) HM0.out HM1.out HM2.out HFIT.out).mono ?_; rintro e w5 ⟨g2, rfl, hg2, hb, hp2⟩; have HP2 := Lib.hid hp2; clear hg2 hp2; have hx5 := bt HX4.out (Nat.le_refl _) hb; have HX5 := Lib.hid hx5; obtain ⟨b0, b1, b2, b3, b4, b5, b6, b7, b8, b9, b10⟩ := box_cells hx5; clear hx5 hb) | (go_at_call 55; refine (HFR.out _ g2 HP2.out).mono ?_; rw [HF.out]; rintro e w6 ⟨rfl, hb⟩; have hx6 := bt HX5.out (Nat.le_refl _) hb; have HX6 := Lib.hid hx6; obtain ⟨b0, b1, b2, b3, b4, b5, b6, b7, b8, b9, b10⟩ := box_cells hx6; clear hx6 hb))
          go_ret2
          exact ⟨ret_check (by rw [← HRR.out, HRS.out]), HEND.out _ HX6.out⟩
      · have HRS := Lib.hid (checkR_use HS.out HD'.out rfl HU.out h0)
        have q1 : (u2 == 0) = false := by simpa using h0
        have q2 : (u2 != 0) = true := by simpa using h0
        clear h0
        go_enter Try.func32, Try.ntmps32
        go_wp2_with (first | (go_at_call 51; refine (HSIZE.out _ HIN.out).mono ?_; rw [HS.out]; rintro e w1 ⟨rfl, hb⟩; have hx1 := bt HR.out (Nat.le_refl _) hb; have HX1 := Lib.hid hx1; obtain ⟨b0, b1, b2, b3, b4, b5, b6, b7, b8, b9, b10⟩ := box_cells hx1; clear hx1 hb) | (go_at_call 52; refine (HNT.out _).mono ?_; rintro e w2 ⟨g, rfl, hg, hb, ht⟩; have HG := Lib.hid (Nat.le_trans HX1.out.size hg); have HT := Lib.hid ht; clear hg ht; have hx2 := bt HX1.out (Nat.le_refl _) hb; have HX2 := Lib.hid hx2; obtain ⟨b0, b1, b2, b3, b4, b5, b6, b7, b8, b9, b10⟩ := box_cells hx2; clear hx2 hb) | (go_at_call 53; refine (HDF.out _ g HX2.out HG.out HT.out).mono ?_; rw [HD.out]; rintro e w3 ⟨rfl, hb3, ht3⟩; have HX3 := Lib.hid hb3; have HT3 := Lib.hid ht3; obtain ⟨b0, b1, b2, b3, b4, b5, b6, b7, b8, b9, b10⟩ := box_cells hb3; clear hb3 ht3) | (go_at_call 54; refine (HUS.out _ g HX3.out (HT3.out (by first | rfl | trivial))).mono ?_; rw [HU.out]; rintro e w4 ⟨rfl, hb⟩; have hx4 := bt HX3.out (Nat.le_refl _) hb; have HX4 := Lib.hid hx4; obtain ⟨b0, b1, b2, b3, b4, b5, b6, b7, b8, b9, b10⟩ := box_cells hx4; clear hx4 hb))
        go_ret2
        exact ⟨ret_check (by rw [← HRR.out, HRS.out]), HEND.out _ HX4.out⟩
    · have HRS := Lib.hid (checkR_def HS.out HD'.out h0)
      have q1 : (d2 == 0) = false := by simpa using h0
      have q2 : (d2 != 0) = true := by simpa using h0
      clear h0
      go_enter Try.func32, Try.ntmps32
      go_wp2_with (first | (go_at_call 51; refine (HSIZE.out _ HIN.out).mono ?_; rw [HS.out]; rintro e w1 ⟨rfl, hb⟩; have hx1 := bt HR.out (Nat.le_refl _) hb; have HX1 := Lib.hid hx1; obtain ⟨b0, b1, b2, b3, b4, b5, b6, b7, b8, b9, b10⟩ := box_cells hx1; clear hx1 hb) | (go_at_call 52; refine (HNT.out _).mono ?_; rintro e w2 ⟨g, rfl, hg, hb, ht⟩; have HG := Lib.hid (Nat.le_trans HX1.out.size hg); have HT := Lib.hid ht; clear hg ht; have hx2 := bt HX1.out (Nat.le_refl _) hb; have HX2 := Lib.hid hx2; obtain ⟨b0, b1, b2, b3, b4, b5, b6, b7, b8, b9, b10⟩ := box_cells hx2; clear hx2 hb) | (go_at_call 53; refine (HDF.out _ g HX2.out HG.out HT.out).mono ?_; rw [HD.out]; rintro e w3 ⟨rfl, hb3, ht3⟩; have HX3 := Lib.hid hb3; have HT3 := Lib.hid ht3; obtain ⟨b0, b1, b2, b3, b4, b5, b6, b7, b8, b9, b10⟩ := box_cells hb3; clear hb3 ht3))
      go_ret2
      exact ⟨ret_check (by rw [← HRR.out, HRS.out]), HEND.out _ HX3.out⟩
  · have HRS := Lib.hid (checkR_size (by rw [HS.out]; exact h0))
    have q1 : (s == 0) = false := by simpa using h0
    have q2 : (s != 0) = true := by simpa using h0
    have H0 := Lib.hid h0
    clear h0
    go_enter Try.func32, Try.ntmps32
    go_wp2_with (first | (go_at_call 51; refine (HSIZE.out _ HIN.out).mono ?_; rw [HS.out]; rintro e w1 ⟨rfl, hb⟩; have hx1 := bt HR.out (Nat.le_refl _) hb; have HX1 := Lib.hid hx1; obtain ⟨b0, b1, b2, b3, b4, b5, b6, b7, b8, b9, b10⟩ := box_cells hx1; clear hx1 hb))
    go_ret2
    exact ⟨ret_check (by rw [← HRR.out, HRS.out, HS.out]), HEND.out _ HX1.out⟩
end Go.Proofs.Ytfbnhkndlohalaa

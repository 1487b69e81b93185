/- The contract of heap's down. -/
import Derived.Test.YtahjmkdpnkffhaaHeapU
import Derived.BigRegion
import Derived.BigQuiet
import Derived.Deep.RegionWith
namespace Go.Proofs.Ytahjmkdpnkffhaa
open Go.RowKit

set_option maxHeartbeats 2000000 in
set_option maxRecDepth 100000 in
theorem down_any (w : World) (B b : Nat) (v : Value) (xs : List Int) (i n f0 : Nat) (h : HpB w B b v xs) (hi0 : i ≤ xs.length) (hf0 : n ≤ f0 + i) (hj : n ≤ xs.length) (hn : xs.length ≤ 100000) :
    Calls Try.prog 187 #[.iface 215 (.pointer (some ⟨b, 0, none⟩)), .int .i64 i, .int .i64 n] w fun e w' => (∃ r, e = .returned r) ∧ HpB w' B b v (downF f0 xs i n) ∧ w.grownBy w' v.ownBlock := by
  have H := Lib.hid h
  generalize hm : xs.length = m at *
  have HM := Lib.hid hm
  clear h hm
  go_enter Try.func187, Try.ntmps187
  go_wp2
  go_loopw [7] (fun i' wr => ∃ (k f : Nat) (ys : List Int), i' = .int .i64 k ∧ k ≤ m ∧ n ≤ f + k ∧ ys.length = m ∧ downF f ys k n = downF f0 xs i n ∧ HpB wr B b v ys ∧ w.grownBy wr v.ownBlock) (fun i' _ => n - (intOf i').toNat)
  case atStart => exact ⟨i, f0, xs, rfl, hi0, by omega, HM.out, rfl, H.out, World.grownBy.refl _ _⟩
  case round =>
    obtain ⟨k, f, ys, rfl, hk, hkf, hl, he, hb, hg⟩ := hrel
    have HB := Lib.hid hb
    have HG := Lib.hid hg
    have HE := Lib.hid he
    by_cases hk0 : n ≤ 2 * k + 1
    · clear hb hg he hl
      go_wp2
      go_ret
      have he := HE.out
      rw [show downF f ys k n = ys by cases f <;> simp [downF, hk0]] at he
      exact ⟨⟨_, rfl⟩, by rw [← he]; exact HB.out, HG.out⟩
    · obtain ⟨g, cap, hv, hBg, h1, h2, h3, hc, hf, hs⟩ := own_cells hb.row (by omega)
      rw [hl] at hv h1 hc
      have HLN := Lib.hid hl
      subst hv
      have c0 := hb.box.cell 0
      simp only [List.getElem?_toArray, List.getElem?_cons_zero] at c0
      have mL : ∀ wx, (∃ kx, wx = wr.drewN kx) → (method 358 215 (.pointer (some ⟨b, 0, none⟩)) "Less").run Try.prog wx = .ok (216, .slice (some ⟨g, 0, none⟩) m cap) wx := by
        rintro _ ⟨kx, rfl⟩
        exact method_Less (wr.drewN kx) b 357 _ _ _ c0
      have mS : ∀ wx, (∃ kx, wx = wr.drewN kx) → (method 358 215 (.pointer (some ⟨b, 0, none⟩)) "Swap").run Try.prog wx = .ok (220, .slice (some ⟨g, 0, none⟩) m cap) wx := by
        rintro _ ⟨kx, rfl⟩
        exact method_Swap (wr.drewN kx) b 357 _ _ _ c0
      have mm := mL wr ⟨0, rfl⟩
      have ML := Lib.hid mL
      have MS := Lib.hid mS
      have hd2 : ∀ wx wy : World, (∃ kx, wx = wr.drewN kx) → (∃ ky, wy = wx.drewN ky) → ∃ kz, wy = wr.drewN kz := by
        rintro _ _ ⟨kx, rfl⟩ ⟨ky, rfl⟩
        exact ⟨kx + ky, World.drewN_drewN _ _ _⟩
      have HD2 := Lib.hid hd2
      have c1 := hc k (by omega)
      obtain ⟨z, hz⟩ : ∃ z, ys.getD k 0 = z := ⟨_, rfl⟩
      have HZ := Lib.hid hz
      rw [hz] at c1
      have cx := hc (2 * k + 1) (by omega)
      obtain ⟨x, hx⟩ : ∃ x, ys.getD (2 * k + 1) 0 = x := ⟨_, rfl⟩
      have HX := Lib.hid hx
      rw [hx] at cx
      by_cases hk1 : 2 * k + 2 < n
      · have cy := hc (2 * k + 1 + 1) (by omega)
        obtain ⟨y, hy⟩ : ∃ y, ys.getD (2 * k + 1 + 1) 0 = y := ⟨_, rfl⟩
        have HY := Lib.hid hy
        rw [hy] at cy
        have hl1 : Calls Try.prog 216 #[.slice (some ⟨g, 0, none⟩) m cap, .int .i64 (2 * (k : Int) + 1 + 1), .int .i64 (2 * (k : Int) + 1)] wr fun e w' => e = .returned (.bool (decide (y < x))) ∧ ∃ ke, w' = wr.drewN ke := Less_any wr g m cap (2 * k + 1 + 1) (2 * k + 1) y x (by omega) (by omega) (by omega) cy cx
        by_cases hc12 : y < x
        · simp only [decide_eq_true hc12] at hl1
          have HL1 := Lib.hid hl1
          have hkid : kid ys k n = 2 * k + 1 + 1 := by unfold kid; rw [if_pos ⟨hk1, by rw [hx]; exact hy ▸ hc12⟩]
          have hdn : downF f ys k n = if y < z then downF (f - 1) (swapL ys k (2 * k + 1 + 1)) (2 * k + 1 + 1) n else ys := by
            cases f with
            | zero => omega
            | succ f => rw [downF, if_neg hk0, hkid, HY.out, HZ.out]; rfl
          have HDN := Lib.hid hdn
          have hl2 : ∀ wx, (∃ kx, wx = wr.drewN kx) → Calls Try.prog 216 #[.slice (some ⟨g, 0, none⟩) m cap, .int .i64 (2 * (k : Int) + 1 + 1), .int .i64 k] wx fun e w' => e = .returned (.bool (decide (y < z))) ∧ ∃ ke, w' = World.drewN wx ke := by
            rintro _ ⟨kx, rfl⟩
            exact Less_any (wr.drewN kx) g m cap (2 * k + 1 + 1) k y z (by omega) (by omega) (by omega) cy c1
          by_cases hlt : y < z
          · have hsw : ∀ wx, (∃ kx, wx = wr.drewN kx) → Calls Try.prog 220 #[.slice (some ⟨g, 0, none⟩) m cap, .int .i64 k, .int .i64 (2 * (k : Int) + 1 + 1)] wx fun e w' => e = .returned (.tuple #[]) ∧ ∃ kx kf, w' = World.drewN (((wr.drewN kx).setCell ⟨g, k, none⟩ (.int .i64 y)).setCell ⟨g, 2 * k + 1 + 1, none⟩ (.int .i64 z)) kf := by
              rintro _ ⟨kx, rfl⟩
              refine (Swap_any (wr.drewN kx) g m cap k (2 * k + 1 + 1) z y (by omega) (by omega) (by omega) c1 cy (hf _) (hf _)).mono ?_
              rintro e w' ⟨h1, kf, h2⟩
              exact ⟨h1, kx, kf, h2⟩
            have HLT := Lib.hid hlt
            simp only [decide_eq_true hlt] at hl2
            have HL2 := Lib.hid hl2
            have HSW := Lib.hid hsw
            clear hb hg he hl hs hc hf hl2 hsw hdn hlt hkid mL mS hd2 cx cy hx hy hz c1 hl1 hc12
            go_wp2_with (first
              | (go_at_call 220; refine (HSW.out _ HW2.out).mono ?_; rintro e w7 ⟨rfl, kx, kf, rfl⟩)
              | (go_at_call_of 216 (Value.int IntKind.i64 (k : Int)); refine (HL2.out _ HW1.out).mono ?_; rintro e w6 ⟨rfl, hw6⟩; have HW2 := Lib.hid (HD2.out _ _ HW1.out hw6); have mS2 := MS.out _ HW2.out)
              | (go_at_call 216; refine HL1.out.mono ?_; rintro e w5 ⟨rfl, hw5⟩; have HW1 := Lib.hid (hw5); have mL1 := ML.out _ HW1.out))
            refine ⟨⟨2 * k + 1 + 1, f - 1, swapL ys k (2 * k + 1 + 1), by go_num, by omega, by omega, by rw [swap_len]; exact HLN.out, by rw [← HE.out, HDN.out, if_pos HLT.out], ?_, ?_⟩, by simp [intOf]; omega⟩
            · have := (HB.out.drewN kx).swap (i := k) (j := 2 * k + 1 + 1) (by rw [HLN.out]; omega) (by rw [HLN.out]; omega)
              rw [HY.out, HZ.out] at this
              exact this.drewN kf
            · exact grown_drewN (grown_set (grown_set (grown_drewN HG.out kx) k _) (2 * k + 1 + 1) _) kf
          · simp only [decide_eq_false hlt] at hl2
            have HLT := Lib.hid (Int.not_lt.1 hlt)
            have HL2 := Lib.hid hl2
            clear hb hg he hl hs hc hf hl2 hdn hlt hkid mL mS hd2 cx cy hx hy hz c1 hl1 hc12
            go_wp2_with (first
              | (go_at_call_of 216 (Value.int IntKind.i64 (k : Int)); refine (HL2.out _ HW1.out).mono ?_; rintro e w6 ⟨rfl, hw6⟩; have HW2 := Lib.hid (HD2.out _ _ HW1.out hw6))
              | (go_at_call 216; refine HL1.out.mono ?_; rintro e w5 ⟨rfl, hw5⟩; have HW1 := Lib.hid (hw5); have mL1 := ML.out _ HW1.out))
            go_ret
            obtain ⟨kz, rfl⟩ := HW2.out
            have he := HE.out
            rw [HDN.out, if_neg (Int.not_lt.2 HLT.out)] at he
            exact ⟨⟨_, rfl⟩, by rw [← he]; exact HB.out.drewN kz, grown_drewN HG.out kz⟩
        · simp only [decide_eq_false hc12] at hl1
          have HL1 := Lib.hid hl1
          have hkid : kid ys k n = 2 * k + 1 := by unfold kid; rw [if_neg (fun h => hc12 (by rw [← hy, ← hx]; exact h.2))]
          have hdn : downF f ys k n = if x < z then downF (f - 1) (swapL ys k (2 * k + 1)) (2 * k + 1) n else ys := by
            cases f with
            | zero => omega
            | succ f => rw [downF, if_neg hk0, hkid, HX.out, HZ.out]; rfl
          have HDN := Lib.hid hdn
          have hl2 : ∀ wx, (∃ kx, wx = wr.drewN kx) → Calls Try.prog 216 #[.slice (some ⟨g, 0, none⟩) m cap, .int .i64 (2 * (k : Int) + 1), .int .i64 k] wx fun e w' => e = .returned (.bool (decide (x < z))) ∧ ∃ ke, w' = World.drewN wx ke := by
            rintro _ ⟨kx, rfl⟩
            exact Less_any (wr.drewN kx) g m cap (2 * k + 1) k x z (by omega) (by omega) (by omega) cx c1
          by_cases hlt : x < z
          · have hsw : ∀ wx, (∃ kx, wx = wr.drewN kx) → Calls Try.prog 220 #[.slice (some ⟨g, 0, none⟩) m cap, .int .i64 k, .int .i64 (2 * (k : Int) + 1)] wx fun e w' => e = .returned (.tuple #[]) ∧ ∃ kx kf, w' = World.drewN (((wr.drewN kx).setCell ⟨g, k, none⟩ (.int .i64 x)).setCell ⟨g, 2 * k + 1, none⟩ (.int .i64 z)) kf := by
              rintro _ ⟨kx, rfl⟩
              refine (Swap_any (wr.drewN kx) g m cap k (2 * k + 1) z x (by omega) (by omega) (by omega) c1 cx (hf _) (hf _)).mono ?_
              rintro e w' ⟨h1, kf, h2⟩
              exact ⟨h1, kx, kf, h2⟩
            have HLT := Lib.hid hlt
            simp only [decide_eq_true hlt] at hl2
            have HL2 := Lib.hid hl2
            have HSW := Lib.hid hsw
            clear hb hg he hl hs hc hf hl2 hsw hdn hlt hkid mL mS hd2 cx cy hx hy hz c1 hl1 hc12
            go_wp2_with (first
              | (go_at_call 220; refine (HSW.out _ HW2.out).mono ?_; rintro e w7 ⟨rfl, kx, kf, rfl⟩)
              | (go_at_call_of 216 (Value.int IntKind.i64 (k : Int)); refine (HL2.out _ HW1.out).mono ?_; rintro e w6 ⟨rfl, hw6⟩; have HW2 := Lib.hid (HD2.out _ _ HW1.out hw6); have mS2 := MS.out _ HW2.out)
              | (go_at_call 216; refine HL1.out.mono ?_; rintro e w5 ⟨rfl, hw5⟩; have HW1 := Lib.hid (hw5); have mL1 := ML.out _ HW1.out))
            refine ⟨⟨2 * k + 1, f - 1, swapL ys k (2 * k + 1), by go_num, by omega, by omega, by rw [swap_len]; exact HLN.out, by rw [← HE.out, HDN.out, if_pos HLT.out], ?_, ?_⟩, by simp [intOf]; omega⟩
            · have := (HB.out.drewN kx).swap (i := k) (j := 2 * k + 1) (by rw [HLN.out]; omega) (by rw [HLN.out]; omega)
              rw [HX.out, HZ.out] at this
              exact this.drewN kf
            · exact grown_drewN (grown_set (grown_set (grown_drewN HG.out kx) k _) (2 * k + 1) _) kf
          · simp only [decide_eq_false hlt] at hl2
            have HLT := Lib.hid (Int.not_lt.1 hlt)
            have HL2 := Lib.hid hl2
            clear hb hg he hl hs hc hf hl2 hdn hlt hkid mL mS hd2 cx cy hx hy hz c1 hl1 hc12
            go_wp2_with (first
              | (go_at_call_of 216 (Value.int IntKind.i64 (k : Int)); refine (HL2.out _ HW1.out).mono ?_; rintro e w6 ⟨rfl, hw6⟩; have HW2 := Lib.hid (HD2.out _ _ HW1.out hw6))
              | (go_at_call 216; refine HL1.out.mono ?_; rintro e w5 ⟨rfl, hw5⟩; have HW1 := Lib.hid (hw5); have mL1 := ML.out _ HW1.out))
            go_ret
            obtain ⟨kz, rfl⟩ := HW2.out
            have he := HE.out
            rw [HDN.out, if_neg (Int.not_lt.2 HLT.out)] at he
            exact ⟨⟨_, rfl⟩, by rw [← he]; exact HB.out.drewN kz, grown_drewN HG.out kz⟩
      ·
        have hkid : kid ys k n = 2 * k + 1 := by unfold kid; rw [if_neg (fun h => hk1 h.1)]
        have hdn : downF f ys k n = if x < z then downF (f - 1) (swapL ys k (2 * k + 1)) (2 * k + 1) n else ys := by
          cases f with
          | zero => omega
          | succ f => rw [downF, if_neg hk0, hkid, HX.out, HZ.out]; rfl
        have HDN := Lib.hid hdn
        have hl2 : ∀ wx, (∃ kx, wx = wr.drewN kx) → Calls Try.prog 216 #[.slice (some ⟨g, 0, none⟩) m cap, .int .i64 (2 * (k : Int) + 1), .int .i64 k] wx fun e w' => e = .returned (.bool (decide (x < z))) ∧ ∃ ke, w' = World.drewN wx ke := by
          rintro _ ⟨kx, rfl⟩
          exact Less_any (wr.drewN kx) g m cap (2 * k + 1) k x z (by omega) (by omega) (by omega) cx c1
        by_cases hlt : x < z
        · have hsw : ∀ wx, (∃ kx, wx = wr.drewN kx) → Calls Try.prog 220 #[.slice (some ⟨g, 0, none⟩) m cap, .int .i64 k, .int .i64 (2 * (k : Int) + 1)] wx fun e w' => e = .returned (.tuple #[]) ∧ ∃ kx kf, w' = World.drewN (((wr.drewN kx).setCell ⟨g, k, none⟩ (.int .i64 x)).setCell ⟨g, 2 * k + 1, none⟩ (.int .i64 z)) kf := by
            rintro _ ⟨kx, rfl⟩
            refine (Swap_any (wr.drewN kx) g m cap k (2 * k + 1) z x (by omega) (by omega) (by omega) c1 cx (hf _) (hf _)).mono ?_
            rintro e w' ⟨h1, kf, h2⟩
            exact ⟨h1, kx, kf, h2⟩
          have HLT := Lib.hid hlt
          simp only [decide_eq_true hlt] at hl2
          have HL2 := Lib.hid hl2
          have HSW := Lib.hid hsw
          clear hb hg he hl hs hc hf hl2 hsw hdn hlt hkid mL mS hd2 cx hx hz c1
          go_wp2_with (first
            | (go_at_call 220; refine (HSW.out _ HW2.out).mono ?_; rintro e w7 ⟨rfl, kx, kf, rfl⟩)
            | (go_at_call 216; refine (HL2.out _ ⟨0, rfl⟩).mono ?_; rintro e w6 ⟨rfl, hw6⟩; have HW2 := Lib.hid (hw6); have mS2 := MS.out _ HW2.out))
          refine ⟨⟨2 * k + 1, f - 1, swapL ys k (2 * k + 1), by go_num, by omega, by omega, by rw [swap_len]; exact HLN.out, by rw [← HE.out, HDN.out, if_pos HLT.out], ?_, ?_⟩, by simp [intOf]; omega⟩
          · have := (HB.out.drewN kx).swap (i := k) (j := 2 * k + 1) (by rw [HLN.out]; omega) (by rw [HLN.out]; omega)
            rw [HX.out, HZ.out] at this
            exact this.drewN kf
          · exact grown_drewN (grown_set (grown_set (grown_drewN HG.out kx) k _) (2 * k + 1) _) kf
        · simp only [decide_eq_false hlt] at hl2
          have HLT := Lib.hid (Int.not_lt.1 hlt)
          have HL2 := Lib.hid hl2
          clear hb hg he hl hs hc hf hl2 hdn hlt hkid mL mS hd2 cx hx hz c1
          go_wp2_with (go_at_call 216; refine (HL2.out _ ⟨0, rfl⟩).mono ?_; rintro e w6 ⟨rfl, hw6⟩; have HW2 := Lib.hid (hw6))
          go_ret
          obtain ⟨kz, rfl⟩ := HW2.out
          have he := HE.out
          rw [HDN.out, if_neg (Int.not_lt.2 HLT.out)] at he
          exact ⟨⟨_, rfl⟩, by rw [← he]; exact HB.out.drewN kz, grown_drewN HG.out kz⟩
end Go.Proofs.Ytahjmkdpnkffhaa

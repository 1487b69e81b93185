/- The contracts of heap.Push and heap.Pop over the row of numbers. -/
import Derived.Test.YtdodhbfplglbkaaHeapU
import Derived.BigRegion
import Derived.BigQuiet
import Derived.Deep.RegionWith
import Derived.Test.YtdodhbfplglbkaaClone
import Derived.Deep.RegionLaw
namespace Go.Proofs.Ytdodhbfplglbkaa
open Go.RowKit

set_option maxHeartbeats 2000000 in
set_option maxRecDepth 100000 in
theorem down_any (w : World) (B b : Nat) (v : Value) (xs : List Int) (i n f0 : Nat) (h : HpB w B b v xs) (hi0 : i ≤ xs.length) (hf0 : n ≤ f0 + i) (hj : n ≤ xs.length) (hn : xs.length ≤ 100000) :
    Calls Try.prog 150 #[.iface 166 (.pointer (some ⟨b, 0, none⟩)), .int .i64 i, .int .i64 n] w fun e w' => (∃ r, e = .returned r) ∧ HpB w' B b v (downF f0 xs i n) ∧ w.grownBy w' v.ownBlock := by
  have H := Lib.hid h
  generalize hm : xs.length = m at *
  have HM := Lib.hid hm
  clear h hm
  go_enter Try.func150, Try.ntmps150
  go_wp2
  go_loopw [7] (fun i' wr => ∃ (k f : Nat) (ys : List Int), i' = .int .i64 k ∧ k ≤ m ∧ n ≤ f + k ∧ ys.length = m ∧ downF f ys k n = downF f0 xs i n ∧ HpB wr B b v ys ∧ w.grownBy wr v.ownBlock) (fun i' _ => n - (intOf i').toNat)
  case atStart => exact ⟨i, f0, xs, rfl, hi0, by omega, HM.out, rfl, H.out, World.grownBy.refl _ _⟩
  case round =>
    obtain ⟨k, f, ys, rfl, hk, hkf, hl, he, hb, hg⟩ := hrel
    have HB := Lib.hid hb
    have HG := Lib.hid hg
    have HE := Lib.hid he
    by_cases hk0 : n ≤ 2 * k + 1
    · clear hb hg he hl
      go_wp2
      go_ret
      have he := HE.out
      rw [show downF f ys k n = ys by cases f <;> simp [downF, hk0]] at he
      exact ⟨⟨_, rfl⟩, by rw [← he]; exact HB.out, HG.out⟩
    · obtain ⟨g, cap, hv, hBg, h1, h2, h3, hc, hf, hs⟩ := own_cells hb.row (by omega)
      rw [hl] at hv h1 hc
      have HLN := Lib.hid hl
      subst hv
      have c0 := hb.box.cell 0
      simp only [List.getElem?_toArray, List.getElem?_cons_zero] at c0
      have mL : ∀ wx, (∃ kx, wx = wr.drewN kx) → (method 311 166 (.pointer (some ⟨b, 0, none⟩)) "Less").run Try.prog wx = .ok (178, .slice (some ⟨g, 0, none⟩) m cap) wx := by
        rintro _ ⟨kx, rfl⟩
        exact method_Less (wr.drewN kx) b 310 _ _ _ c0
      have mS : ∀ wx, (∃ kx, wx = wr.drewN kx) → (method 311 166 (.pointer (some ⟨b, 0, none⟩)) "Swap").run Try.prog wx = .ok (182, .slice (some ⟨g, 0, none⟩) m cap) wx := by
        rintro _ ⟨kx, rfl⟩
        exact method_Swap (wr.drewN kx) b 310 _ _ _ c0
      have mm := mL wr ⟨0, rfl⟩
      have ML := Lib.hid mL
      have MS := Lib.hid mS
      have hd2 : ∀ wx wy : World, (∃ kx, wx = wr.drewN kx) → (∃ ky, wy = wx.drewN ky) → ∃ kz, wy = wr.drewN kz := by
        rintro _ _ ⟨kx, rfl⟩ ⟨ky, rfl⟩
        exact ⟨kx + ky, World.drewN_drewN _ _ _⟩
      have HD2 := Lib.hid hd2
      have c1 := hc k (by omega)
      obtain ⟨z, hz⟩ : ∃ z, ys.getD k 0 = z := ⟨_, rfl⟩
      have HZ := Lib.hid hz
      rw [hz] at c1
      have cx := hc (2 * k + 1) (by omega)
      obtain ⟨x, hx⟩ : ∃ x, ys.getD (2 * k + 1) 0 = x := ⟨_, rfl⟩
      have HX := Lib.hid hx
      rw [hx] at cx
      by_cases hk1 : 2 * k + 2 < n
      · have cy := hc (2 * k + 1 + 1) (by omega)
        obtain ⟨y, hy⟩ : ∃ y, ys.getD (2 * k + 1 + 1) 0 = y := ⟨_, rfl⟩
        have HY := Lib.hid hy
        rw [hy] at cy
        have hl1 : Calls Try.prog 178 #[.slice (some ⟨g, 0, none⟩) m cap, .int .i64 (2 * (k : Int) + 1 + 1), .int .i64 (2 * (k : Int) + 1)] wr fun e w' => e = .returned (.bool (decide (y < x))) ∧ ∃ ke, w' = wr.drewN ke := Less_any wr g m cap (2 * k + 1 + 1) (2 * k + 1) y x (by omega) (by omega) (by omega) cy cx
        by_cases hc12 : y < x
        · simp only [decide_eq_true hc12] at hl1
          have HL1 := Lib.hid hl1
          have hkid : kid ys k n = 2 * k + 1 + 1 := by unfold kid; rw [if_pos ⟨hk1, by rw [hx]; exact hy ▸ hc12⟩]
          have hdn : downF f ys k n = if y < z then downF (f - 1) (swapL ys k (2 * k + 1 + 1)) (2 * k + 1 + 1) n else ys := by
            cases f with
            | zero => omega
            | succ f => rw [downF, if_neg hk0, hkid, HY.out, HZ.out]; rfl
          have HDN := Lib.hid hdn
          have hl2 : ∀ wx, (∃ kx, wx = wr.drewN kx) → Calls Try.prog 178 #[.slice (some ⟨g, 0, none⟩) m cap, .int .i64 (2 * (k : Int) + 1 + 1), .int .i64 k] wx fun e w' => e = .returned (.bool (decide (y < z))) ∧ ∃ ke, w' = World.drewN wx ke := by
            rintro _ ⟨kx, rfl⟩
            exact Less_any (wr.drewN kx) g m cap (2 * k + 1 + 1) k y z (by omega) (by omega) (by omega) cy c1
          by_cases hlt : y < z
          · have hsw : ∀ wx, (∃ kx, wx = wr.drewN kx) → Calls Try.prog 182 #[.slice (some ⟨g, 0, none⟩) m cap, .int .i64 k, .int .i64 (2 * (k : Int) + 1 + 1)] wx fun e w' => e = .returned (.tuple #[]) ∧ ∃ kx kf, w' = World.drewN (((wr.drewN kx).setCell ⟨g, k, none⟩ (.int .i64 y)).setCell ⟨g, 2 * k + 1 + 1, none⟩ (.int .i64 z)) kf := by
              rintro _ ⟨kx, rfl⟩
              refine (Swap_any (wr.drewN kx) g m cap k (2 * k + 1 + 1) z y (by omega) (by omega) (by omega) c1 cy (hf _) (hf _)).mono ?_
              rintro e w' ⟨h1, kf, h2⟩
              exact ⟨h1, kx, kf, h2⟩
            have HLT := Lib.hid hlt
            simp only [decide_eq_true hlt] at hl2
            have HL2 := Lib.hid hl2
            have HSW := Lib.hid hsw
            clear hb hg he hl hs hc hf hl2 hsw hdn hlt hkid mL mS hd2 cx cy hx hy hz c1 hl1 hc12
            go_wp2_with (first
              | (go_at_call 182; refine (HSW.out _ HW2.out).mono ?_; rintro e w7 ⟨rfl, kx, kf, rfl⟩)
              | (go_at_call_of 178 (Value.int IntKind.i64 (k : Int)); refine (HL2.out _ HW1.out).mono ?_; rintro e w6 ⟨rfl, hw6⟩; have HW2 := Lib.hid (HD2.out _ _ HW1.out hw6); have mS2 := MS.out _ HW2.out)
              | (go_at_call 178; refine HL1.out.mono ?_; rintro e w5 ⟨rfl, hw5⟩; have HW1 := Lib.hid (hw5); have mL1 := ML.out _ HW1.out))
            refine ⟨⟨2 * k + 1 + 1, f - 1, swapL ys k (2 * k + 1 + 1), by go_num, by omega, by omega, by rw [swap_len]; exact HLN.out, by rw [← HE.out, HDN.out, if_pos HLT.out], ?_, ?_⟩, by simp [intOf]; omega⟩
            · have := (HB.out.drewN kx).swap (i := k) (j := 2 * k + 1 + 1) (by rw [HLN.out]; omega) (by rw [HLN.out]; omega)
              rw [HY.out, HZ.out] at this
              exact this.drewN kf
            · exact grown_drewN (grown_set (grown_set (grown_drewN HG.out kx) k _) (2 * k + 1 + 1) _) kf
          · simp only [decide_eq_false hlt] at hl2
            have HLT := Lib.hid (Int.not_lt.1 hlt)
            have HL2 := Lib.hid hl2
            clear hb hg he hl hs hc hf hl2 hdn hlt hkid mL mS hd2 cx cy hx hy hz c1 hl1 hc12
            go_wp2_with (first
              | (go_at_call_of 178 (Value.int IntKind.i64 (k : Int)); refine (HL2.out _ HW1.out).mono ?_; rintro e w6 ⟨rfl, hw6⟩; have HW2 := Lib.hid (HD2.out _ _ HW1.out hw6))
              | (go_at_call 178; refine HL1.out.mono ?_; rintro e w5 ⟨rfl, hw5⟩; have HW1 := Lib.hid (hw5); have mL1 := ML.out _ HW1.out))
            go_ret
            obtain ⟨kz, rfl⟩ := HW2.out
            have he := HE.out
            rw [HDN.out, if_neg (Int.not_lt.2 HLT.out)] at he
            exact ⟨⟨_, rfl⟩, by rw [← he]; exact HB.out.drewN kz, grown_drewN HG.out kz⟩
        · simp only [decide_eq_false hc12] at hl1
          have HL1 := Lib.hid hl1
          have hkid : kid ys k n = 2 * k + 1 := by unfold kid; rw [if_neg (fun h => hc12 (by rw [← hy, ← hx]; exact h.2))]
          have hdn : downF f ys k n = if x < z then downF (f - 1) (swapL ys k (2 * k + 1)) (2 * k + 1) n else ys := by
            cases f with
            | zero => omega
            | succ f => rw [downF, if_neg hk0, hkid, HX.out, HZ.out]; rfl
          have HDN := Lib.hid hdn
          have hl2 : ∀ wx, (∃ kx, wx = wr.drewN kx) → Calls Try.prog 178 #[.slice (some ⟨g, 0, none⟩) m cap, .int .i64 (2 * (k : Int) + 1), .int .i64 k] wx fun e w' => e = .returned (.bool (decide (x < z))) ∧ ∃ ke, w' = World.drewN wx ke := by
            rintro _ ⟨kx, rfl⟩
            exact Less_any (wr.drewN kx) g m cap (2 * k + 1) k x z (by omega) (by omega) (by omega) cx c1
          by_cases hlt : x < z
          · have hsw : ∀ wx, (∃ kx, wx = wr.drewN kx) → Calls Try.prog 182 #[.slice (some ⟨g, 0, none⟩) m cap, .int .i64 k, .int .i64 (2 * (k : Int) + 1)] wx fun e w' => e = .returned (.tuple #[]) ∧ ∃ kx kf, w' = World.drewN (((wr.drewN kx).setCell ⟨g, k, none⟩ (.int .i64 x)).setCell ⟨g, 2 * k + 1, none⟩ (.int .i64 z)) kf := by
              rintro _ ⟨kx, rfl⟩
              refine (Swap_any (wr.drewN kx) g m cap k (2 * k + 1) z x (by omega) (by omega) (by omega) c1 cx (hf _) (hf _)).mono ?_
              rintro e w' ⟨h1, kf, h2⟩
              exact ⟨h1, kx, kf, h2⟩
            have HLT := Lib.hid hlt
            simp only [decide_eq_true hlt] at hl2
            have HL2 := Lib.hid hl2
            have HSW := Lib.hid hsw
            clear hb hg he hl hs hc hf hl2 hsw hdn hlt hkid mL mS hd2 cx cy hx hy hz c1 hl1 hc12
            go_wp2_with (first
              | (go_at_call 182; refine (HSW.out _ HW2.out).mono ?_; rintro e w7 ⟨rfl, kx, kf, rfl⟩)
              | (go_at_call_of 178 (Value.int IntKind.i64 (k : Int)); refine (HL2.out _ HW1.out).mono ?_; rintro e w6 ⟨rfl, hw6⟩; have HW2 := Lib.hid (HD2.out _ _ HW1.out hw6); have mS2 := MS.out _ HW2.out)
              | (go_at_call 178; refine HL1.out.mono ?_; rintro e w5 ⟨rfl, hw5⟩; have HW1 := Lib.hid (hw5); have mL1 := ML.out _ HW1.out))
            refine ⟨⟨2 * k + 1, f - 1, swapL ys k (2 * k + 1), by go_num, by omega, by omega, by rw [swap_len]; exact HLN.out, by rw [← HE.out, HDN.out, if_pos HLT.out], ?_, ?_⟩, by simp [intOf]; omega⟩
            · have := (HB.out.drewN kx).swap (i := k) (j := 2 * k + 1) (by rw [HLN.out]; omega) (by rw [HLN.out]; omega)
              rw [HX.out, HZ.out] at this
              exact this.drewN kf
            · exact grown_drewN (grown_set (grown_set (grown_drewN HG.out kx) k _) (2 * k + 1) _) kf
          · simp only [decide_eq_false hlt] at hl2
            have HLT := Lib.hid (Int.not_lt.1 hlt)
            have HL2 := Lib.hid hl2
            clear hb hg he hl hs hc hf hl2 hdn hlt hkid mL mS hd2 cx cy hx hy hz c1 hl1 hc12
            go_wp2_with (first
              | (go_at_call_of 178 (Value.int IntKind.i64 (k : Int)); refine (HL2.out _ HW1.out).mono ?_; rintro e w6 ⟨rfl, hw6⟩; have HW2 := Lib.hid (HD2.out _ _ HW1.out hw6))
              | (go_at_call 178; refine HL1.out.mono ?_; rintro e w5 ⟨rfl, hw5⟩; have HW1 := Lib.hid (hw5); have mL1 := ML.out _ HW1.out))
            go_ret
            obtain ⟨kz, rfl⟩ := HW2.out
            have he := HE.out
            rw [HDN.out, if_neg (Int.not_lt.2 HLT.out)] at he
            exact ⟨⟨_, rfl⟩, by rw [← he]; exact HB.out.drewN kz, grown_drewN HG.out kz⟩
      ·
        have hkid : kid ys k n = 2 * k + 1 := by unfold kid; rw [if_neg (fun h => hk1 h.1)]
        have hdn : downF f ys k n = if x < z then downF (f - 1) (swapL ys k (2 * k + 1)) (2 * k + 1) n else ys := by
          cases f with
          | zero => omega
          | succ f => rw [downF, if_neg hk0, hkid, HX.out, HZ.out]; rfl
        have HDN := Lib.hid hdn
        have hl2 : ∀ wx, (∃ kx, wx = wr.drewN kx) → Calls Try.prog 178 #[.slice (some ⟨g, 0, none⟩) m cap, .int .i64 (2 * (k : Int) + 1), .int .i64 k] wx fun e w' => e = .returned (.bool (decide (x < z))) ∧ ∃ ke, w' = World.drewN wx ke := by
          rintro _ ⟨kx, rfl⟩
          exact Less_any (wr.drewN kx) g m cap (2 * k + 1) k x z (by omega) (by omega) (by omega) cx c1
        by_cases hlt : x < z
        · have hsw : ∀ wx, (∃ kx, wx = wr.drewN kx) → Calls Try.prog 182 #[.slice (some ⟨g, 0, none⟩) m cap, .int .i64 k, .int .i64 (2 * (k : Int) + 1)] wx fun e w' => e = .returned (.tuple #[]) ∧ ∃ kx kf, w' = World.drewN (((wr.drewN kx).setCell ⟨g, k, none⟩ (.int .i64 x)).setCell ⟨g, 2 * k + 1, none⟩ (.int .i64 z)) kf := by
            rintro _ ⟨kx, rfl⟩
            refine (Swap_any (wr.drewN kx) g m cap k (2 * k + 1) z x (by omega) (by omega) (by omega) c1 cx (hf _) (hf _)).mono ?_
            rintro e w' ⟨h1, kf, h2⟩
            exact ⟨h1, kx, kf, h2⟩
          have HLT := Lib.hid hlt
          simp only [decide_eq_true hlt] at hl2
          have HL2 := Lib.hid hl2
          have HSW := Lib.hid hsw
          clear hb hg he hl hs hc hf hl2 hsw hdn hlt hkid mL mS hd2 cx hx hz c1
          go_wp2_with (first
            | (go_at_call 182; refine (HSW.out _ HW2.out).mono ?_; rintro e w7 ⟨rfl, kx, kf, rfl⟩)
            | (go_at_call 178; refine (HL2.out _ ⟨0, rfl⟩).mono ?_; rintro e w6 ⟨rfl, hw6⟩; have HW2 := Lib.hid (hw6); have mS2 := MS.out _ HW2.out))
          refine ⟨⟨2 * k + 1, f - 1, swapL ys k (2 * k + 1), by go_num, by omega, by omega, by rw [swap_len]; exact HLN.out, by rw [← HE.out, HDN.out, if_pos HLT.out], ?_, ?_⟩, by simp [intOf]; omega⟩
          · have := (HB.out.drewN kx).swap (i := k) (j := 2 * k + 1) (by rw [HLN.out]; omega) (by rw [HLN.out]; omega)
            rw [HX.out, HZ.out] at this
            exact this.drewN kf
          · exact grown_drewN (grown_set (grown_set (grown_drewN HG.out kx) k _) (2 * k + 1) _) kf
        · simp only [decide_eq_false hlt] at hl2
          have HLT := Lib.hid (Int.not_lt.1 hlt)
          have HL2 := Lib.hid hl2
          clear hb hg he hl hs hc hf hl2 hdn hlt hkid mL mS hd2 cx hx hz c1
          go_wp2_with (go_at_call 178; refine (HL2.out _ ⟨0, rfl⟩).mono ?_; rintro e w6 ⟨rfl, hw6⟩; have HW2 := Lib.hid (hw6))
          go_ret
          obtain ⟨kz, rfl⟩ := HW2.out
          have he := HE.out
          rw [HDN.out, if_neg (Int.not_lt.2 HLT.out)] at he
          exact ⟨⟨_, rfl⟩, by rw [← he]; exact HB.out.drewN kz, grown_drewN HG.out kz⟩
end Go.Proofs.Ytdodhbfplglbkaa

namespace Go.Proofs.Ytdodhbfplglbkaa
open Go.RowKit

@[go_sem] theorem assert_int (x : Int) (w : World) : (Instr.typeAssert (.iface 3 (.int .i64 x)) 20 3 false).run Try.prog w = .ok (.int .i64 x) w := by kernel_rfl
set_option maxHeartbeats 1000000 in
set_option maxRecDepth 100000 in
theorem NPush_any (w : World) (B b : Nat) (v : Value) (xs : List Int) (x : Int) (h : HpB w B b v xs) (hB : B ≤ w.heap.size) (hn : xs.length ≤ 100000) :
    Calls Try.prog 180 #[.pointer (some ⟨b, 0, none⟩), .iface 3 (.int .i64 x)] w fun e w' => e = .returned (.tuple #[]) ∧ ∃ v' w1, HpB w' B b v' (xs ++ [x]) ∧ w.grownBy w1 v.ownBlock ∧ w' = w1.setCell ⟨b, 0, none⟩ v' ∧ (v'.ownBlock = v.ownBlock ∨ ∃ g, v'.ownBlock = some g ∧ w.heap.size ≤ g) := by
  have c0 := h.box.cell 0
  have f0 := h.box.frozen 0
  simp only [List.getElem?_toArray, List.getElem?_cons_zero] at c0
  obtain ⟨A, c, hv⟩ := own_slice h.row
  subst hv
  obtain ⟨i0, hi0, hz0, hz1, hz2⟩ := info_of2 infoI2
  have HI0 := Lib.hid (And.intro hi0 (And.intro hz0 (And.intro hz1 hz2)))
  have HO := Lib.hid ((own_below h.row (Below.refl _ w).drew).alloc (.cells #[.int .i64 x] 3))
  have HR := Lib.hid (reads_one w.drew (.int .i64 x) 3)
  have ca := (h.box.alloc (.cells #[.int .i64 x] 3)).cell 0
  simp only [List.getElem?_toArray, List.getElem?_cons_zero] at ca
  have HX := Lib.hid ((h.box.drew).alloc (.cells #[.int .i64 x] 3))
  have hno : some b ≠ (Value.slice A xs.length c).ownBlock := fun e => by have := (HO.out.lt _ e.symm).1; have := h.lt; omega
  have HNO := Lib.hid hno
  have hlt := h.lt
  clear h hi0 hz0 hz1 hz2 hno
  go_enter Try.func180, Try.ntmps180
  go_wp2
  go_region_law ((refine step_append_any _ rfl (.tmp 8) (.tmp 11) _ rfl B 3 i0 _ 1 8 Try.underlying167 HI0.out.1 HI0.out.2.1 HI0.out.2.2.1 HI0.out.2.2.2 rfl (by omega) (.slice A xs.length c) xs.length (xs.map (Value.int .i64)) (by simp [Act.eval]) HO.out _ (some ⟨w.heap.size, 0, none⟩) 1 1 [.int .i64 x] (by simp [Act.eval]) HR.out (by simp [Value.oneCell']) (by simp only [maxLen]; omega) (by omega) (by simp; omega) ?_; intro v3 w3 hown3 hg3 hat3; obtain ⟨A3, c3, rfl⟩ := own_slice hown3; have hb4 := HX.out.grown hg3 HNO.out; have co4 := hb4.cell 0; have fo4 := Blk.frozen hb4 0; simp only [List.getElem?_toArray, List.getElem?_cons_zero] at co4))
  all_goals (
    go_wp2
    go_end0
    refine ⟨rfl, .slice A3 (xs.length + 1) c3, w3, ⟨by simpa using Blk.set_ hb4 0 (.slice A3 (xs.length + 1) c3), own_set (by simpa using hown3) hlt _ _, hlt⟩, ?_, rfl, ?_⟩
    · exact grown_trans (w1 := w.drew.alloc (.cells #[.int .i64 x] 3)) (r := (Value.slice A xs.length c).ownBlock) ⟨rfl, rfl, rfl, by simp, fun k hk _ => Below.heap_alloc w _ _ hk⟩ hg3
    · rcases hat3 with h | h
      · exact .inl h
      · exact .inr ⟨_, h, by simp⟩)
set_option maxHeartbeats 2000000 in
set_option maxRecDepth 100000 in
theorem NPop_any (w : World) (B b : Nat) (v : Value) (xs : List Int) (h : HpB w B b v xs) (h0 : 0 < xs.length) (hn : xs.length ≤ 100000) :
    Calls Try.prog 179 #[.pointer (some ⟨b, 0, none⟩)] w fun e w' => e = .returned (.iface 3 (.int .i64 (xs.getD (xs.length - 1) 0))) ∧ ∃ v', HpB w' B b v' (xs.take (xs.length - 1)) ∧ v'.ownBlock = v.ownBlock ∧ w' = w.setCell ⟨b, 0, none⟩ v' := by
  have H := Lib.hid h
  have c0 := h.box.cell 0
  have f0 := h.box.frozen 0
  simp only [List.getElem?_toArray, List.getElem?_cons_zero] at c0
  obtain ⟨g, cap, cur, hv, hB, hg, h1, h2, h3, h4⟩ := own_some h.row h0
  subst hv
  have hx : w.cell? ⟨g, xs.length - 1, none⟩ = some (.int .i64 (xs.getD (xs.length - 1) 0)) := by
    obtain ⟨g', cap', hv', _, _, _, _, hc, _, _⟩ := own_cells h.row h0
    injection hv' with e1 e2 e3
    injection e1 with e1
    injection e1 with e1
    subst e1
    exact hc _ (by omega)
  obtain ⟨m, hm⟩ : ∃ m, xs.length = m + 1 := ⟨xs.length - 1, by omega⟩
  have HM := Lib.hid hm
  have HL := Lib.hid (And.intro h4 (And.intro h3 hg))
  rw [hm] at c0 hx h1 ⊢
  have hmm : m + 1 - 1 = m := rfl
  rw [hmm] at hx ⊢
  have hmc : ¬ cap = 0 := by omega
  have hmn : m ≤ 100000 := by omega
  clear h h0 h3 h4 hg hm
  go_enter Try.func179, Try.ntmps179
  go_wp2
  go_ret
  refine ⟨rfl, .slice (some ⟨g, 0, none⟩) m cap, ⟨?_, ?_, H.out.lt⟩, rfl, rfl⟩
  · simpa using Blk.set_ H.out.box 0 (.slice (some ⟨g, 0, none⟩) m cap)
  · obtain ⟨h4, h3, hg⟩ := HL.out
    have hmt : (xs.take m).length = m := by rw [List.length_take, HM.out]; omega
    rw [hmt]
    refine own_set (own_cut hg hB (by omega) h2 h3 ?_) H.out.lt _ _
    rw [List.map_take, ← h4, List.take_take, HM.out, Nat.min_eq_left (by omega)]
end Go.Proofs.Ytdodhbfplglbkaa

namespace Go.Proofs.Ytdodhbfplglbkaa
open Go.RowKit

/-- Nothing that was there has turned but one block and one row. -/
structure Keep2 (w w' : World) (b : Nat) (row : Option Nat) : Prop where
  os : w'.os = w.os
  tape : w'.tape = w.tape
  output : w'.output = w.output
  size : w.heap.size ≤ w'.heap.size
  block : ∀ k, k < w.heap.size → k ≠ b → some k ≠ row → w'.heap[k]? = w.heap[k]?
theorem Keep2.of_grown {w w' : World} {r : Option Nat} (h : w.grownBy w' r) (b : Nat) : Keep2 w w' b r := ⟨h.os, h.tape, h.output, h.size, fun k hk _ hr => h.block k hk hr⟩
theorem Keep2.setB {w w' : World} {r : Option Nat} {b : Nat} (h : Keep2 w w' b r) (i : Nat) (u : Value) : Keep2 w (w'.setCell ⟨b, i, none⟩ u) b r :=
  ⟨h.os, h.tape, h.output, by simpa [World.setCell] using h.size, fun k hk hb hr => (Below.heap_setCell _ _ _ _ (by simpa using hb)).trans (h.block k hk hb hr)⟩
theorem Keep2.grown {w w1 w2 : World} {r r1 : Option Nat} {b : Nat} (h : Keep2 w w1 b r) (h2 : w1.grownBy w2 r1) (hr : r1 = r ∨ ∃ g, r1 = some g ∧ w.heap.size ≤ g) : Keep2 w w2 b r :=
  ⟨h2.os.trans h.os, h2.tape.trans h.tape, h2.output.trans h.output, Nat.le_trans h.size h2.size, fun k hk hb hk2 => (h2.block k (Nat.lt_of_lt_of_le hk h.size) (by
    rcases hr with rfl | ⟨g, rfl, hg⟩
    · exact hk2
    · intro e; injection e with e; omega)).trans (h.block k hk hb hk2)⟩

set_option maxHeartbeats 1000000 in
set_option maxRecDepth 100000 in
theorem HPush_any (w : World) (B b : Nat) (v : Value) (xs : List Int) (x : Int) (h : HpB w B b v xs) (hB : B ≤ w.heap.size) (hn : xs.length < 100000) :
    Calls Try.prog 137 #[.iface 166 (.pointer (some ⟨b, 0, none⟩)), .iface 3 (.int .i64 x)] w fun e w' => e = .returned (.tuple #[]) ∧ ∃ v', HpB w' B b v' (pushF xs x) ∧ Keep2 w w' b v.ownBlock ∧ (v'.ownBlock = v.ownBlock ∨ ∃ g, v'.ownBlock = some g ∧ w.heap.size ≤ g) := by
  have H := Lib.hid h
  have m0 : (method 311 166 (.pointer (some ⟨b, 0, none⟩)) "Push").run Try.prog w = .ok (180, .pointer (some ⟨b, 0, none⟩)) w := method_Push w ⟨b, 0, none⟩ 310
  have hp := NPush_any w B b v xs x h hB (by omega)
  have HP := Lib.hid hp
  have hlen : (xs ++ [x]).length = xs.length + 1 := by simp
  have HLN := Lib.hid hlen
  clear h hp hlen
  generalize hm : xs.length = m at *
  have HM := Lib.hid hm
  clear hm
  go_enter Try.func137, Try.ntmps137
  go_wp2_with (first
    | (go_at_call 180; refine HP.out.mono ?_; rintro e w2 ⟨rfl, v1, w1, hb1, hg1, hw2, hat1⟩; obtain ⟨A1, c1, hv1⟩ := own_slice hb1.row; rw [HLN.out] at hv1; subst hv1; have d0 := hb1.box.cell 0; simp only [List.getElem?_toArray, List.getElem?_cons_zero] at d0; have m2 : (method 311 166 (.pointer (some ⟨b, 0, none⟩)) "Len").run Try.prog w2 = .ok (135, .slice A1 (m + 1) c1) w2 := method_Len w2 b 310 _ _ _ d0; have HB1 := Lib.hid hb1; have HG1 := Lib.hid (And.intro hg1 (And.intro hw2 hat1)); have hup := up_any w2 B b _ _ m hb1 (by rw [HLN.out]; omega) (by rw [HLN.out]; omega); have HUP := Lib.hid hup; clear hb1 hg1 hw2 hat1 hup)
    | (go_at_call 135; refine (Len_any _ _ _ _).mono ?_; rintro e w5 ⟨rfl, rfl⟩)
    | (go_at_call 151; refine HUP.out.mono ?_; rintro e w6 ⟨rfl, hb6, hg6⟩))
  go_end0
  obtain ⟨hg1, hw2, hat1⟩ := HG1.out
  refine ⟨rfl, _, ?_, ?_, hat1⟩
  · unfold pushF
    rw [HM.out]
    exact hb6
  · refine Keep2.grown ?_ hg6 hat1
    rw [hw2]
    exact (Keep2.of_grown hg1 b).setB _ _

set_option maxHeartbeats 1000000 in
set_option maxRecDepth 100000 in
theorem HPop_any (w : World) (B b : Nat) (v : Value) (xs : List Int) (h : HpB w B b v xs) (h0 : 0 < xs.length) (hn : xs.length < 100000) :
    Calls Try.prog 136 #[.iface 166 (.pointer (some ⟨b, 0, none⟩))] w fun e w' => e = .returned (.iface 3 (.int .i64 (popF xs).1)) ∧ ∃ v', HpB w' B b v' (popF xs).2 ∧ Keep2 w w' b v.ownBlock ∧ v'.ownBlock = v.ownBlock := by
  have H := Lib.hid h
  obtain ⟨g, cap, hv, hBg, h1, h2, h3, hc, hf, hs⟩ := own_cells h.row h0
  obtain ⟨m, hm⟩ : ∃ m, xs.length = m + 1 := ⟨xs.length - 1, by omega⟩
  have hmn : m ≤ 100000 := by omega
  have HM := Lib.hid hm
  rw [hm] at hv
  subst hv
  have c0 := h.box.cell 0
  simp only [List.getElem?_toArray, List.getElem?_cons_zero] at c0
  have mL : (method 311 166 (.pointer (some ⟨b, 0, none⟩)) "Len").run Try.prog w = .ok (135, .slice (some ⟨g, 0, none⟩) (m + 1) cap) w := method_Len w b 310 _ _ _ c0
  have mS : (method 311 166 (.pointer (some ⟨b, 0, none⟩)) "Swap").run Try.prog w = .ok (182, .slice (some ⟨g, 0, none⟩) (m + 1) cap) w := method_Swap w b 310 _ _ _ c0
  have hsw := Swap_any w g (m + 1) cap 0 m _ _ (by omega) (by omega) (by omega) (hc 0 (by omega)) (hc m (by omega)) (hf _) (hf _)
  have hsp := h.swap (i := 0) (j := m) (by omega) (by omega)
  have hdn : ∀ k, Calls Try.prog 150 #[.iface 166 (.pointer (some ⟨b, 0, none⟩)), .int .i64 0, .int .i64 m] (World.drewN ((w.setCell ⟨g, 0, none⟩ (.int .i64 (xs.getD m 0))).setCell ⟨g, m, none⟩ (.int .i64 (xs.getD 0 0))) k) fun e w' => (∃ r, e = .returned r) ∧ HpB w' B b (.slice (some ⟨g, 0, none⟩) (m + 1) cap) (sunk xs) ∧ (World.drewN ((w.setCell ⟨g, 0, none⟩ (.int .i64 (xs.getD m 0))).setCell ⟨g, m, none⟩ (.int .i64 (xs.getD 0 0))) k).grownBy w' (some g) := fun k => by
    have := down_any _ B b _ _ 0 m xs.length (hsp.drewN k) (by omega) (by omega) (by rw [swap_len]; omega) (by rw [swap_len]; omega)
    have e : downF xs.length (swapL xs 0 m) 0 m = sunk xs := by unfold sunk; rw [hm]; rfl
    rw [e] at this
    exact this
  have hne : xs ≠ [] := List.length_pos_iff.1 h0
  have hpp : ∀ w6, HpB w6 B b (.slice (some ⟨g, 0, none⟩) (m + 1) cap) (sunk xs) → Calls Try.prog 179 #[.pointer (some ⟨b, 0, none⟩)] w6 fun e w' => e = .returned (.iface 3 (.int .i64 (popF xs).1)) ∧ ∃ v', HpB w' B b v' (popF xs).2 ∧ v'.ownBlock = some g ∧ w' = w6.setCell ⟨b, 0, none⟩ v' := fun w6 h6 => by
    have := NPop_any w6 B b _ _ h6 (by rw [sunk_len hne]; omega) (by rw [sunk_len hne]; omega)
    rw [sunk_len hne] at this
    exact this
  have hk : w.grownBy ((w.setCell ⟨g, 0, none⟩ (.int .i64 (xs.getD m 0))).setCell ⟨g, m, none⟩ (.int .i64 (xs.getD 0 0))) (some g) := grown_set (grown_set (World.grownBy.refl _ _) 0 _) m _
  have HSW := Lib.hid hsw
  have HDN := Lib.hid hdn
  have HPP := Lib.hid hpp
  have HK := Lib.hid hk
  clear h h0 hc hf hs hm hsw hsp hdn hpp hk hne
  go_enter Try.func136, Try.ntmps136
  go_wp2_with (first
    | (go_at_call 135; refine (Len_any _ _ _ _).mono ?_; rintro e w5 ⟨rfl, rfl⟩)
    | (go_at_call 182; refine HSW.out.mono ?_; rintro e w5 ⟨rfl, k5, rfl⟩)
    | (go_at_call 150; refine (HDN.out _).mono ?_; rintro e w6 ⟨⟨r6, rfl⟩, hb6, hg6⟩; have m6 : (method 311 166 (.pointer (some ⟨b, 0, none⟩)) "Pop").run Try.prog w6 = .ok (179, .pointer (some ⟨b, 0, none⟩)) w6 := method_Pop w6 ⟨b, 0, none⟩ 310; have HB6 := Lib.hid hb6; have HG6 := Lib.hid hg6; clear hb6 hg6)
    | (go_at_call 179; refine (HPP.out _ HB6.out).mono ?_; rintro e w7 ⟨rfl, v7, hb7, ho7, rfl⟩))
  go_ret
  refine ⟨rfl, v7, hb7, ?_, ho7⟩
  exact (Keep2.grown (Keep2.of_grown (grown_drewN HK.out k5) b) HG6.out (.inl rfl)).setB _ _
end Go.Proofs.Ytdodhbfplglbkaa

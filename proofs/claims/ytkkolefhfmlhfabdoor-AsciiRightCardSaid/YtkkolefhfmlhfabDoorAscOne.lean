/- AsciiOne: the walk. -/
import Derived.Test.YtkkolefhfmlhfabDoorAscZ
namespace Go.Proofs.YtkkolefhfmlhfabDoor
open Go.RowKit

theorem strB_init (l : Bs) : (strB l).extract 0 ((strB l).size - 1) = strB (l.take (l.length - 1)) := by
  rw [Lib.extract_eq, strB_list, strB_size]
  simp [strB]
theorem getN {l : Bs} {i : Nat} {c : UInt8} (hc : l[i]? = some c) : ∃ h : i < (strB l).size, (strB l)[i]'h = c := by
  obtain ⟨hk, e⟩ := List.getElem?_eq_some_iff.1 hc
  refine ⟨by rw [strB_size]; exact hk, ?_⟩
  rw [← e]
  rfl
theorem run_idx {s : ByteArray} {t : TypeId} {c : UInt8} (ht : Tryd.prog.underlying t = some .string) (h2 : 2 ≤ s.size) (h : s.size - 2 < s.size) (hc : s[s.size - 2]'h = c) (wx : World) : (Instr.index t (.string s) (.int .i64 ((s.size : Int) - 2))).run Tryd.prog wx = .ok (.int .u8 (c.toNat : Int)) wx := by
  have e : ((s.size : Int) - 2).toNat = s.size - 2 := by omega
  rw [run_index_string wx t s .i64 _ ht, dif_pos (by omega)]
  simp only [e, hc]
theorem strB_snoc (l : Bs) (c : UInt8) : strB l ++ ⟨#[c]⟩ = strB (l ++ [c]) := by
  apply ByteArray.ext
  simp [strB]
set_option maxHeartbeats 8000000 in
set_option maxRecDepth 100000 in
theorem asciiOne_any (w : World) (B : Nat) (s : Bs) (b : UInt8) (hs : s.length ≤ 9223372036854775807) (lib : LibB B w) (hB : B ≤ w.heap.size) :
    Calls Tryd.prog 6 #[.string (strB s), .int .u8 (b.toNat : Int)] w fun e w' => e = .returned (.bool true) ∧ Below w.heap.size w w' := by
  have HW := Lib.hid (works_any w B lib hB)
  have HRD := Lib.hid (fun (wx : World) (hx : Below w.heap.size w wx) (t : Bs) (ht : t.length ≤ 9223372036854775807) => Read_use wx B t ht (lib.up hB hx) (Nat.le_trans hB hx.size))
  have HLS : Hid ((strB s).size = s.length) := Lib.hid (strB_size s)
  clear lib
  go_enter Tryd.func6, Tryd.ntmps6
  go_upto_region 4 with (first
    | (go_at_call 12; refine HW.out.mono ?_; rintro e w1 ⟨rfl, hb⟩; have HB1 := Lib.hid hb; clear hb)
    | (go_at_call 16; refine (HRD.out w1 HB1.out s hs).mono ?_; rintro e w2 ⟨hb, ⟨Wi, Wl, Wo, Wb, Wc, Wj, Wf, Wa, Ws, Wt⟩, m, k, x, ⟨⟨i1, i2, i3, q1⟩, ⟨l1, l2, l3, q2⟩, ⟨o1, o2, o3, q3⟩, ⟨b1, b2, b3, q4⟩, ⟨d1, d2, d3, q5⟩, ⟨j1, j2, j3, q6⟩, ⟨f1, f2, f3, q7⟩, ⟨a1, a2, a3, q8⟩, ⟨s1, s2, s3, q9⟩, ⟨t1, t2, t3, q10⟩⟩, rfl, hrd⟩; simp only at q1 q2 q3 q4 q5 q6 q7 q8 q9 q10; subst q1 q2 q3 q4 q5 q6 q7 q8 q9 q10; have HB2 := Lib.hid (bt HB1.out (Nat.le_refl _) hb); have HP2 := Lib.hid hrd; clear hb hrd))
  obtain ⟨x1, hx1⟩ : ∃ z9, w2.heap.size = z9 := ⟨_, rfl⟩
  obtain ⟨u1, hu1⟩ : ∃ z9, (w2.alloc (.cells #[.int .i64 m, .slice i1 i2 i3, .slice l1 l2 l3, .slice o1 o2 o3, .slice b1 b2 b3, .slice d1 d2 d3, .slice j1 j2 j3, .slice f1 f2 f3, .slice a1 a2 a3, .slice s1 s2 s3, .slice t1 t2 t3] 44)).alloc (.cells #[.int .i64 k, .int .i64 x] 25) = z9 := ⟨_, rfl⟩
  have HBU1 : Hid (Below w.heap.size w u1) := Lib.hid (by rw [← hu1]; exact (HB2.out.alloc HB2.out.size _).alloc (by have := HB2.out.size; simp; omega) _)
  have hxb : Blk u1 (x1 + 1) 25 #[.int .i64 k, .int .i64 x] := by
    have h9 := Blk.new (w2.alloc (.cells #[.int .i64 m, .slice i1 i2 i3, .slice l1 l2 l3, .slice o1 o2 o3, .slice b1 b2 b3, .slice d1 d2 d3, .slice j1 j2 j3, .slice f1 f2 f3, .slice a1 a2 a3, .slice s1 s2 s3, .slice t1 t2 t3] 44)) 25 #[.int .i64 k, .int .i64 x]
    rw [show (w2.alloc (.cells #[.int .i64 m, .slice i1 i2 i3, .slice l1 l2 l3, .slice o1 o2 o3, .slice b1 b2 b3, .slice d1 d2 d3, .slice j1 j2 j3, .slice f1 f2 f3, .slice a1 a2 a3, .slice s1 s2 s3, .slice t1 t2 t3] 44)).heap.size = x1 + 1 by simp [hx1], hu1] at h9
    exact h9
  have m0 : u1.cell? ⟨x1 + 1, 0, none⟩ = some (.int .i64 k) := hxb.cell 0
  have m1 : u1.cell? ⟨x1 + 1, 1, none⟩ = some (.int .i64 x) := hxb.cell 1
  (try rw [hx1])
  rw [hu1]
  clear hu1 hxb hx1
  have HCV : Hid (∀ (wx : World) (c : UInt8), (convert 49 9 (.slice (some ⟨wx.heap.size, 0, none⟩) 1 1)).run Tryd.prog (wx.alloc (.cells #[.int .u8 (c.toNat : Int)] 5)) = .ok (.string ⟨#[c]⟩) (wx.alloc (.cells #[.int .u8 (c.toNat : Int)] 5))) := Lib.hid (fun wx c =>
    run_convert_bytes_back (wx.alloc (.cells #[.int .u8 (c.toNat : Int)] 5)) 49 9 5 ⟨wx.heap.size, 0, none⟩ 1 [c] Tryd.underlying49 Tryd.underlying5 Tryd.underlying9 (fun j hj => by
      have hj0 : j = 0 := by simpa using hj
      subst hj0
      rw [add_none]
      exact (Blk.new wx _ _).cell 0))
  rcases HP2.out with ⟨rfl, rfl, hr⟩ | ⟨hx, _⟩
  · obtain ⟨hend, hne, hle⟩ := hr.end_
    have HR := Lib.hid hr
    have HLAST := Lib.hid (reads_less hr)
    have h0 : ¬ (((strB s).size : Int) = 0) := by rw [HLS.out]; have := List.length_pos_iff.2 hne; omega
    have h0q : (((strB s).size : Int) == 0) = false := by simpa using fun h9 => h0 (by rw [h9]; rfl)
    have h0e : ¬ strB s = ByteArray.empty := fun h9 => h0 (by rw [h9]; rfl)
    clear hend hr hne
    by_cases hbig : 262144 ≤ s.length
    · have hbI : (262144 : Int) ≤ ((strB s).size : Int) := by rw [HLS.out]; omega
      go_wp2
      all_goals (go_ret; exact ⟨rfl, HBU1.out⟩)
    · have hbI : ¬ (262144 : Int) ≤ ((strB s).size : Int) := by rw [HLS.out]; omega
      by_cases hb10 : b = 10
      · have hbY : (b.toNat : Int) = 10 := by rw [hb10]; rfl
        have hne11 : (11 : UInt8) ≠ 10 := by decide
        have hcv : ∀ wx : World, (convert 49 9 (.slice (some ⟨wx.heap.size, 0, none⟩) 1 1)).run Tryd.prog (wx.alloc (.cells #[.int .u8 11] 5)) = .ok (.string ⟨#[11]⟩) (wx.alloc (.cells #[.int .u8 11] 5)) := fun wx => HCV.out wx 11
        have hcu : strB s ++ ⟨#[11]⟩ = strB (s ++ [11]) := strB_snoc s 11
        go_upto_region 9 with (go_at_call 16; (try rw [hcu]); refine (HRD.out _ (HBU1.out.alloc HBU1.out.size _) (s ++ [11]) (by simp; omega)).mono ?_; rintro e w3 ⟨hb, ⟨Wi, Wl, Wo, Wb, Wc, Wj, Wf, Wa, Ws, Wt⟩, m2, ka, xa, ⟨⟨i1, i2, i3, q1⟩, ⟨l1, l2, l3, q2⟩, ⟨o1, o2, o3, q3⟩, ⟨b1, b2, b3, q4⟩, ⟨d1, d2, d3, q5⟩, ⟨j1, j2, j3, q6⟩, ⟨f1, f2, f3, q7⟩, ⟨a1, a2, a3, q8⟩, ⟨s1, s2, s3, q9⟩, ⟨t1, t2, t3, q10⟩⟩, rfl, hrd⟩; simp only at q1 q2 q3 q4 q5 q6 q7 q8 q9 q10; subst q1 q2 q3 q4 q5 q6 q7 q8 q9 q10; have HB3 := Lib.hid (bt (HBU1.out.alloc HBU1.out.size _) (Nat.le_refl _) hb); have HX3 : Hid (xa ≠ 0) := Lib.hid (hrd.elim (fun h9 => absurd h9.2.2 (reads_more hne11)) (fun h9 => h9.1)); clear hb hrd)
        obtain ⟨x3, hx3⟩ : ∃ z9, w3.heap.size = z9 := ⟨_, rfl⟩
        obtain ⟨u3, hu3⟩ : ∃ z9, (w3.alloc (.cells #[.int .i64 m2, .slice i1 i2 i3, .slice l1 l2 l3, .slice o1 o2 o3, .slice b1 b2 b3, .slice d1 d2 d3, .slice j1 j2 j3, .slice f1 f2 f3, .slice a1 a2 a3, .slice s1 s2 s3, .slice t1 t2 t3] 44)).alloc (.cells #[.int .i64 ka, .int .i64 xa] 25) = z9 := ⟨_, rfl⟩
        have HBU3 : Hid (Below w.heap.size w u3) := Lib.hid (by rw [← hu3]; exact (HB3.out.alloc HB3.out.size _).alloc (by have := HB3.out.size; simp; omega) _)
        have HXC : Hid (Blk u3 (x3 + 1) 25 #[.int .i64 ka, .int .i64 xa]) := Lib.hid (by
          have h9 := Blk.new (w3.alloc (.cells #[.int .i64 m2, .slice i1 i2 i3, .slice l1 l2 l3, .slice o1 o2 o3, .slice b1 b2 b3, .slice d1 d2 d3, .slice j1 j2 j3, .slice f1 f2 f3, .slice a1 a2 a3, .slice s1 s2 s3, .slice t1 t2 t3] 44)) 25 #[.int .i64 ka, .int .i64 xa]
          rw [show (w3.alloc (.cells #[.int .i64 m2, .slice i1 i2 i3, .slice l1 l2 l3, .slice o1 o2 o3, .slice b1 b2 b3, .slice d1 d2 d3, .slice j1 j2 j3, .slice f1 f2 f3, .slice a1 a2 a3, .slice s1 s2 s3, .slice t1 t2 t3] 44)).heap.size = x3 + 1 by simp [hx3], hu3] at h9
          exact h9)
        (try rw [hx3])
        rw [hu3]
        clear hu3 hx3 m0 m1 hcv hcu
        have hci : (strB s).extract 0 ((strB s).size - 1) = strB (s.take (s.length - 1)) := strB_init s
        go_upto_region 10 with (go_at_call 16; (try rw [hci]); refine (HRD.out u3 HBU3.out (s.take (s.length - 1)) (by simp; omega)).mono ?_; rintro e w4 ⟨hb, ⟨Wi, Wl, Wo, Wb, Wc, Wj, Wf, Wa, Ws, Wt⟩, m3, kb, xb, ⟨⟨i1, i2, i3, q1⟩, ⟨l1, l2, l3, q2⟩, ⟨o1, o2, o3, q3⟩, ⟨b1, b2, b3, q4⟩, ⟨d1, d2, d3, q5⟩, ⟨j1, j2, j3, q6⟩, ⟨f1, f2, f3, q7⟩, ⟨a1, a2, a3, q8⟩, ⟨s1, s2, s3, q9⟩, ⟨t1, t2, t3, q10⟩⟩, rfl, hrd⟩; simp only at q1 q2 q3 q4 q5 q6 q7 q8 q9 q10; subst q1 q2 q3 q4 q5 q6 q7 q8 q9 q10; have HB4 := Lib.hid hb; have HP4 := Lib.hid hrd; clear hb hrd)
        obtain ⟨x4, hx4⟩ : ∃ z9, w4.heap.size = z9 := ⟨_, rfl⟩
        obtain ⟨u4, hu4⟩ : ∃ z9, (w4.alloc (.cells #[.int .i64 m3, .slice i1 i2 i3, .slice l1 l2 l3, .slice o1 o2 o3, .slice b1 b2 b3, .slice d1 d2 d3, .slice j1 j2 j3, .slice f1 f2 f3, .slice a1 a2 a3, .slice s1 s2 s3, .slice t1 t2 t3] 44)).alloc (.cells #[.int .i64 kb, .int .i64 xb] 25) = z9 := ⟨_, rfl⟩
        have hbx : Below u3.heap.size u3 u4 := by rw [← hu4]; exact (HB4.out.alloc HB4.out.size _).alloc (by have := HB4.out.size; simp; omega) _
        have HBU4 : Hid (Below w.heap.size w u4) := Lib.hid (bt HBU3.out (Nat.le_refl _) hbx)
        have hxd : Blk u4 (x4 + 1) 25 #[.int .i64 kb, .int .i64 xb] := by
          have h9 := Blk.new (w4.alloc (.cells #[.int .i64 m3, .slice i1 i2 i3, .slice l1 l2 l3, .slice o1 o2 o3, .slice b1 b2 b3, .slice d1 d2 d3, .slice j1 j2 j3, .slice f1 f2 f3, .slice a1 a2 a3, .slice s1 s2 s3, .slice t1 t2 t3] 44)) 25 #[.int .i64 kb, .int .i64 xb]
          rw [show (w4.alloc (.cells #[.int .i64 m3, .slice i1 i2 i3, .slice l1 l2 l3, .slice o1 o2 o3, .slice b1 b2 b3, .slice d1 d2 d3, .slice j1 j2 j3, .slice f1 f2 f3, .slice a1 a2 a3, .slice s1 s2 s3, .slice t1 t2 t3] 44)).heap.size = x4 + 1 by simp [hx4], hu4] at h9
          exact h9
        have hxc := HXC.out.below hbx (Blk.lt HXC.out)
        have m0 : u4.cell? ⟨x3 + 1, 1, none⟩ = some (.int .i64 xa) := hxc.cell 1
        have m1 : u4.cell? ⟨x4 + 1, 1, none⟩ = some (.int .i64 xb) := hxd.cell 1
        (try rw [hx4])
        rw [hu4]
        have hxa : ¬ xa = 0 := HX3.out
        clear hu4 hx4 hxc hxd hbx hci
        rcases HP4.out with ⟨rfl, rfl, hr⟩ | ⟨hxb, _⟩
        · obtain ⟨hq1, hq2, _⟩ := hr.end_
          have hq3 := List.length_pos_iff.2 hq2
          rw [List.length_take] at hq3
          have h2 : (1 : Int) < ((strB s).size : Int) := by rw [HLS.out]; omega
          have h10 := reads_less hr
          have h11 : s[s.length - 2]? = some 10 := by
            rw [List.length_take, List.getElem?_take] at h10
            have e9 : min (s.length - 1) s.length - 1 = s.length - 2 := by omega
            rw [e9] at h10
            split at h10
            · exact h10
            · cases h10
          rw [← HLS.out] at h11
          obtain ⟨hik, hiv⟩ := getN h11
          have h22 : (2 : Int) ≤ ((strB s).size : Int) := by omega
          have hxaq : (xa != 0) = true := by simpa using hxa
          have hix : ∀ wx : World, (Instr.index 9 (.string (strB s)) (.int .i64 (((strB s).size : Int) - 2))).run Tryd.prog wx = .ok (.int .u8 10) wx := fun wx => run_idx Tryd.underlying9 (by omega) hik hiv wx
          clear hq1 hq2 hr h10 h11 hq3 HP4 hik hiv h0 h0q h0e
          go_wp2
          go_ret
          exact ⟨rfl, HBU4.out⟩
        · have hxaq : (xa != 0) = true := by simpa using hxa
          have hxbq : (xb != 0) = true := by simpa using hxb
          go_wp2
          go_ret
          exact ⟨rfl, HBU4.out⟩
      · have hbN : ¬ ((b.toNat : Int) = 10) := fun h => hb10 (UInt8.toNat_inj.1 (by show b.toNat = 10; omega))
        have hcv : ∀ wx : World, (convert 49 9 (.slice (some ⟨wx.heap.size, 0, none⟩) 1 1)).run Tryd.prog (wx.alloc (.cells #[.int .u8 (b.toNat : Int)] 5)) = .ok (.string ⟨#[b]⟩) (wx.alloc (.cells #[.int .u8 (b.toNat : Int)] 5)) := fun wx => HCV.out wx b
        have hcu : strB s ++ ⟨#[b]⟩ = strB (s ++ [b]) := strB_snoc s b
        go_upto_region 9 with (go_at_call 16; (try rw [hcu]); refine (HRD.out _ (HBU1.out.alloc HBU1.out.size _) (s ++ [b]) (by simp; omega)).mono ?_; rintro e w3 ⟨hb, ⟨Wi, Wl, Wo, Wb, Wc, Wj, Wf, Wa, Ws, Wt⟩, m2, ka, xa, ⟨⟨i1, i2, i3, q1⟩, ⟨l1, l2, l3, q2⟩, ⟨o1, o2, o3, q3⟩, ⟨b1, b2, b3, q4⟩, ⟨d1, d2, d3, q5⟩, ⟨j1, j2, j3, q6⟩, ⟨f1, f2, f3, q7⟩, ⟨a1, a2, a3, q8⟩, ⟨s1, s2, s3, q9⟩, ⟨t1, t2, t3, q10⟩⟩, rfl, hrd⟩; simp only at q1 q2 q3 q4 q5 q6 q7 q8 q9 q10; subst q1 q2 q3 q4 q5 q6 q7 q8 q9 q10; have HB3 := Lib.hid (bt (HBU1.out.alloc HBU1.out.size _) (Nat.le_refl _) hb); have HX3 : Hid (xa ≠ 0) := Lib.hid (hrd.elim (fun h9 => absurd h9.2.2 (reads_more hb10)) (fun h9 => h9.1)); clear hb hrd)
        obtain ⟨x3, hx3⟩ : ∃ z9, w3.heap.size = z9 := ⟨_, rfl⟩
        obtain ⟨u3, hu3⟩ : ∃ z9, (w3.alloc (.cells #[.int .i64 m2, .slice i1 i2 i3, .slice l1 l2 l3, .slice o1 o2 o3, .slice b1 b2 b3, .slice d1 d2 d3, .slice j1 j2 j3, .slice f1 f2 f3, .slice a1 a2 a3, .slice s1 s2 s3, .slice t1 t2 t3] 44)).alloc (.cells #[.int .i64 ka, .int .i64 xa] 25) = z9 := ⟨_, rfl⟩
        have HBU3 : Hid (Below w.heap.size w u3) := Lib.hid (by rw [← hu3]; exact (HB3.out.alloc HB3.out.size _).alloc (by have := HB3.out.size; simp; omega) _)
        have HXC : Hid (Blk u3 (x3 + 1) 25 #[.int .i64 ka, .int .i64 xa]) := Lib.hid (by
          have h9 := Blk.new (w3.alloc (.cells #[.int .i64 m2, .slice i1 i2 i3, .slice l1 l2 l3, .slice o1 o2 o3, .slice b1 b2 b3, .slice d1 d2 d3, .slice j1 j2 j3, .slice f1 f2 f3, .slice a1 a2 a3, .slice s1 s2 s3, .slice t1 t2 t3] 44)) 25 #[.int .i64 ka, .int .i64 xa]
          rw [show (w3.alloc (.cells #[.int .i64 m2, .slice i1 i2 i3, .slice l1 l2 l3, .slice o1 o2 o3, .slice b1 b2 b3, .slice d1 d2 d3, .slice j1 j2 j3, .slice f1 f2 f3, .slice a1 a2 a3, .slice s1 s2 s3, .slice t1 t2 t3] 44)).heap.size = x3 + 1 by simp [hx3], hu3] at h9
          exact h9)
        (try rw [hx3])
        rw [hu3]
        clear hu3 hx3 m0 m1 hcv hcu
        have hci : (strB s).extract 0 ((strB s).size - 1) = strB (s.take (s.length - 1)) := strB_init s
        go_upto_region 10 with (go_at_call 16; (try rw [hci]); refine (HRD.out u3 HBU3.out (s.take (s.length - 1)) (by simp; omega)).mono ?_; rintro e w4 ⟨hb, ⟨Wi, Wl, Wo, Wb, Wc, Wj, Wf, Wa, Ws, Wt⟩, m3, kb, xb, ⟨⟨i1, i2, i3, q1⟩, ⟨l1, l2, l3, q2⟩, ⟨o1, o2, o3, q3⟩, ⟨b1, b2, b3, q4⟩, ⟨d1, d2, d3, q5⟩, ⟨j1, j2, j3, q6⟩, ⟨f1, f2, f3, q7⟩, ⟨a1, a2, a3, q8⟩, ⟨s1, s2, s3, q9⟩, ⟨t1, t2, t3, q10⟩⟩, rfl, hrd⟩; simp only at q1 q2 q3 q4 q5 q6 q7 q8 q9 q10; subst q1 q2 q3 q4 q5 q6 q7 q8 q9 q10; have HB4 := Lib.hid hb; have HP4 := Lib.hid hrd; clear hb hrd)
        obtain ⟨x4, hx4⟩ : ∃ z9, w4.heap.size = z9 := ⟨_, rfl⟩
        obtain ⟨u4, hu4⟩ : ∃ z9, (w4.alloc (.cells #[.int .i64 m3, .slice i1 i2 i3, .slice l1 l2 l3, .slice o1 o2 o3, .slice b1 b2 b3, .slice d1 d2 d3, .slice j1 j2 j3, .slice f1 f2 f3, .slice a1 a2 a3, .slice s1 s2 s3, .slice t1 t2 t3] 44)).alloc (.cells #[.int .i64 kb, .int .i64 xb] 25) = z9 := ⟨_, rfl⟩
        have hbx : Below u3.heap.size u3 u4 := by rw [← hu4]; exact (HB4.out.alloc HB4.out.size _).alloc (by have := HB4.out.size; simp; omega) _
        have HBU4 : Hid (Below w.heap.size w u4) := Lib.hid (bt HBU3.out (Nat.le_refl _) hbx)
        have hxd : Blk u4 (x4 + 1) 25 #[.int .i64 kb, .int .i64 xb] := by
          have h9 := Blk.new (w4.alloc (.cells #[.int .i64 m3, .slice i1 i2 i3, .slice l1 l2 l3, .slice o1 o2 o3, .slice b1 b2 b3, .slice d1 d2 d3, .slice j1 j2 j3, .slice f1 f2 f3, .slice a1 a2 a3, .slice s1 s2 s3, .slice t1 t2 t3] 44)) 25 #[.int .i64 kb, .int .i64 xb]
          rw [show (w4.alloc (.cells #[.int .i64 m3, .slice i1 i2 i3, .slice l1 l2 l3, .slice o1 o2 o3, .slice b1 b2 b3, .slice d1 d2 d3, .slice j1 j2 j3, .slice f1 f2 f3, .slice a1 a2 a3, .slice s1 s2 s3, .slice t1 t2 t3] 44)).heap.size = x4 + 1 by simp [hx4], hu4] at h9
          exact h9
        have hxc := HXC.out.below hbx (Blk.lt HXC.out)
        have m0 : u4.cell? ⟨x3 + 1, 1, none⟩ = some (.int .i64 xa) := hxc.cell 1
        have m1 : u4.cell? ⟨x4 + 1, 1, none⟩ = some (.int .i64 xb) := hxd.cell 1
        (try rw [hx4])
        rw [hu4]
        have hxa : ¬ xa = 0 := HX3.out
        clear hu4 hx4 hxc hxd hbx hci
        rcases HP4.out with ⟨rfl, rfl, hr⟩ | ⟨hxb, _⟩
        · obtain ⟨hq1, hq2, _⟩ := hr.end_
          have hq3 := List.length_pos_iff.2 hq2
          rw [List.length_take] at hq3
          have h2 : (1 : Int) < ((strB s).size : Int) := by rw [HLS.out]; omega
          have h10 := reads_less hr
          have h11 : s[s.length - 2]? = some 10 := by
            rw [List.length_take, List.getElem?_take] at h10
            have e9 : min (s.length - 1) s.length - 1 = s.length - 2 := by omega
            rw [e9] at h10
            split at h10
            · exact h10
            · cases h10
          rw [← HLS.out] at h11
          obtain ⟨hik, hiv⟩ := getN h11
          have h22 : (2 : Int) ≤ ((strB s).size : Int) := by omega
          have hxaq : (xa != 0) = true := by simpa using hxa
          have hix : ∀ wx : World, (Instr.index 9 (.string (strB s)) (.int .i64 (((strB s).size : Int) - 2))).run Tryd.prog wx = .ok (.int .u8 10) wx := fun wx => run_idx Tryd.underlying9 (by omega) hik hiv wx
          clear hq1 hq2 hr h10 h11 hq3 HP4 hik hiv h0 h0q h0e
          go_wp2
          go_ret
          exact ⟨rfl, HBU4.out⟩
        · have hxaq : (xa != 0) = true := by simpa using hxa
          have hxbq : (xb != 0) = true := by simpa using hxb
          go_wp2
          go_ret
          exact ⟨rfl, HBU4.out⟩
  · go_wp2
    go_ret
    exact ⟨rfl, HBU1.out⟩
end Go.Proofs.YtkkolefhfmlhfabDoor

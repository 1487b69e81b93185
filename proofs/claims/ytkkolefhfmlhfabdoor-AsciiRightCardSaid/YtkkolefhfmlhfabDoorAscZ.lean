/- Ascii: works. -/
import Derived.Test.YtkkolefhfmlhfabDoorAscY
namespace Go.Proofs.YtkkolefhfmlhfabDoor
open Go.RowKit

set_option maxHeartbeats 8000000 in
set_option maxRecDepth 100000 in
theorem works_any (w : World) (B : Nat) (lib : LibB B w) (hB : B ≤ w.heap.size) :
    Calls Tryd.prog 12 #[] w fun e w' => e = .returned (.bool true) ∧ Below w.heap.size w w' := by
  have HR1 := Lib.hid (Read_ex1 w B lib hB)
  have HR2 := Lib.hid (fun (wx : World) (hx : Below w.heap.size w wx) => Read_ex2 wx B (lib.up hB hx) (Nat.le_trans hB hx.size))
  clear lib
  go_enter Tryd.func12, Tryd.ntmps12
  go_upto_region 2 with (go_at_call 16; refine HR1.out.mono ?_; rintro e w1 ⟨hb, ⟨Wi, Wl, Wo, Wb, Wc, Wj, Wf, Wa, Ws, Wt⟩, g, g2, ⟨⟨i1, i2, i3, q1⟩, _, ⟨o1, o2, o3, q3⟩, _, ⟨d1, d2, d3, q5⟩, ⟨j1, j2, j3, q6⟩, ⟨f1, f2, f3, q7⟩, ⟨a1, a2, a3, q8⟩, ⟨s1, s2, s3, q9⟩, ⟨t1, t2, t3, q10⟩⟩, rfl, h1, h2, k0, k1, k2, k3⟩; simp only at q1 q3 q5 q6 q7 q8 q9 q10; subst q1 q3 q5 q6 q7 q8 q9 q10; have HB1 := Lib.hid hb; have HK := Lib.hid (And.intro h1 (And.intro h2 (And.intro k0 (And.intro k1 (And.intro k2 k3))))); clear hb h1 h2 k0 k1 k2 k3)
  obtain ⟨x1, hx1⟩ : ∃ x, w1.heap.size = x := ⟨_, rfl⟩
  obtain ⟨u1, hu1⟩ : ∃ x, (w1.alloc (.cells #[.int .i64 1, .slice i1 i2 i3, .slice (some ⟨g, 0, none⟩) 1 1, .slice o1 o2 o3, .slice (some ⟨g2, 0, none⟩) 1 1, .slice d1 d2 d3, .slice j1 j2 j3, .slice f1 f2 f3, .slice a1 a2 a3, .slice s1 s2 s3, .slice t1 t2 t3] 44)).alloc (.cells #[.int .i64 0, .int .i64 0] 25) = x := ⟨_, rfl⟩
  have HBU1 : Hid (Below w.heap.size w u1) := Lib.hid (by rw [← hu1]; exact (HB1.out.alloc HB1.out.size _).alloc (by have := HB1.out.size; simp; omega) _)
  have hbu : Below w1.heap.size w1 u1 := by rw [← hu1]; exact ((Below.refl _ _).alloc (Nat.le_refl _) _).alloc (by simp) _
  have hxa : Blk u1 x1 44 #[.int .i64 1, .slice i1 i2 i3, .slice (some ⟨g, 0, none⟩) 1 1, .slice o1 o2 o3, .slice (some ⟨g2, 0, none⟩) 1 1, .slice d1 d2 d3, .slice j1 j2 j3, .slice f1 f2 f3, .slice a1 a2 a3, .slice s1 s2 s3, .slice t1 t2 t3] := by rw [← hu1, ← hx1]; exact (Blk.new w1 _ _).alloc _
  have hxb : Blk u1 (x1 + 1) 25 #[.int .i64 0, .int .i64 0] := by
    have h9 := Blk.new (w1.alloc (.cells #[.int .i64 1, .slice i1 i2 i3, .slice (some ⟨g, 0, none⟩) 1 1, .slice o1 o2 o3, .slice (some ⟨g2, 0, none⟩) 1 1, .slice d1 d2 d3, .slice j1 j2 j3, .slice f1 f2 f3, .slice a1 a2 a3, .slice s1 s2 s3, .slice t1 t2 t3] 44)) 25 #[.int .i64 0, .int .i64 0]
    rw [show (w1.alloc (.cells #[.int .i64 1, .slice i1 i2 i3, .slice (some ⟨g, 0, none⟩) 1 1, .slice o1 o2 o3, .slice (some ⟨g2, 0, none⟩) 1 1, .slice d1 d2 d3, .slice j1 j2 j3, .slice f1 f2 f3, .slice a1 a2 a3, .slice s1 s2 s3, .slice t1 t2 t3] 44)).heap.size = x1 + 1 by simp [hx1], hu1] at h9
    exact h9
  have HKU : Hid (∀ wx, Below u1.heap.size u1 wx → Below w.heap.size w wx ∧ wx.cell? ⟨x1, 0, none⟩ = some (.int .i64 1) ∧ wx.cell? ⟨x1, 2, none⟩ = some (.slice (some ⟨g, 0, none⟩) 1 1) ∧ wx.cell? ⟨x1, 4, none⟩ = some (.slice (some ⟨g2, 0, none⟩) 1 1) ∧ wx.cell? ⟨x1 + 1, 0, none⟩ = some (.int .i64 0) ∧ wx.cell? ⟨x1 + 1, 1, none⟩ = some (.int .i64 0) ∧ wx.cell? ⟨g, 0, none⟩ = some (.int .i64 2) ∧ wx.cell? ⟨g, 1, none⟩ = some (.int .i64 3) ∧ wx.cell? ⟨g, 2, none⟩ = some (.int .i64 0) ∧ wx.cell? ⟨g2, 0, none⟩ = some (.int .i64 2)) := Lib.hid (fun wx hb => by
    obtain ⟨h1, h2, k0, k1, k2, k3⟩ := HK.out
    have hbw : Below w1.heap.size w1 wx := bt hbu (Nat.le_refl _) hb
    have hya := hxa.below hb (Blk.lt hxa)
    have hyb := hxb.below hb (Blk.lt hxb)
    exact ⟨bt HBU1.out (Nat.le_refl _) hb, hya.cell 0, hya.cell 2, hya.cell 4, hyb.cell 0, hyb.cell 1, (hbw.cell h1).trans k0, (hbw.cell h1).trans k1, (hbw.cell h1).trans k2, (hbw.cell h2).trans k3⟩)
  (try rw [hx1])
  rw [hu1]
  clear hu1 hbu hxa hxb hx1
  have HRX := Lib.hid (HR2.out u1 HBU1.out)
  go_upto_region 3 with (go_at_call 16; refine HRX.out.mono ?_; rintro e w2 ⟨hb, rfl⟩; have HB2 := Lib.hid hb; clear hb)
  obtain ⟨x2, hx2⟩ : ∃ x, w2.heap.size = x := ⟨_, rfl⟩
  obtain ⟨u2, hu2⟩ : ∃ x, (w2.alloc (.cells circ0 44)).alloc (.cells #[.int .i64 0, .int .i64 40] 25) = x := ⟨_, rfl⟩
  have hb2 : Below u1.heap.size u1 u2 := by rw [← hu2]; exact (HB2.out.alloc HB2.out.size _).alloc (by have := HB2.out.size; simp; omega) _
  have hxc : Blk u2 (x2 + 1) 25 #[.int .i64 0, .int .i64 40] := by
    have h9 := Blk.new (w2.alloc (.cells circ0 44)) 25 #[.int .i64 0, .int .i64 40]
    rw [show (w2.alloc (.cells circ0 44)).heap.size = x2 + 1 by simp [hx2], hu2] at h9
    exact h9
  obtain ⟨hbw, m0, m1, m2, m3, m4, m5, m6, m7, m8⟩ := HKU.out u2 hb2
  have m9 : u2.cell? ⟨x2 + 1, 0, none⟩ = some (.int .i64 0) := hxc.cell 0
  have m10 : u2.cell? ⟨x2 + 1, 1, none⟩ = some (.int .i64 40) := hxc.cell 1
  have HBW := Lib.hid hbw
  (try rw [hx2])
  rw [hu2]
  clear hu2 hb2 hxc hx2 hbw
  go_wp2
  go_ret
  exact ⟨rfl, HBW.out⟩
end Go.Proofs.YtkkolefhfmlhfabDoor

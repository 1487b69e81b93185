/- Renumber of a circuit that Check refuses. -/
import Derived.Test.YtfcjdfjobneeeaaRenE
import Derived.Test.YtfcjdfjobneeeaaRight
namespace Go.Proofs.Ytfcjdfjobneeeaa
open Go.RowKit

def noV : CV := ⟨.slice none 0 0, .slice none 0 0, .slice none 0 0, .slice none 0 0, .slice none 0 0, .slice none 0 0, .slice none 0 0, .slice none 0 0, .slice none 0 0, .slice none 0 0⟩
set_option maxHeartbeats 2000000 in
set_option maxRecDepth 100000 in
theorem Renumber_no (w : World) (V : CV) (C : Circ) (h : C.In w V) (ok : C.Ok) (hz : (checkR C).2 ≠ 0) :
    Calls Try.prog 18 #[V.val C.max] w fun e w' => Below w.heap.size w w' ∧ e = .returned (.tuple #[.agg #[.int .i64 0, .slice none 0 0, .slice none 0 0, .slice none 0 0, .slice none 0 0, .slice none 0 0, .slice none 0 0, .slice none 0 0, .slice none 0 0, .slice none 0 0, .slice none 0 0], .slice none 0 0, .int .i64 (checkR C).2]) := by
  obtain ⟨m, hmm⟩ : ∃ m, C.max = m := ⟨_, rfl⟩
  obtain ⟨Vi, Vl, Vo, Vb, Vc, Vj, Vf, Va, Vs, Vt⟩ := V
  obtain ⟨W0, hW0⟩ : ∃ W0, W0 = (w.alloc (.cells #[.int .i64 m, Vi, Vl, Vo, Vb, Vc, Vj, Vf, Va, Vs, Vt] 29)).alloc (.cells #[.int .i64 0, .slice none 0 0, .slice none 0 0, .slice none 0 0, .slice none 0 0, .slice none 0 0, .slice none 0 0, .slice none 0 0, .slice none 0 0, .slice none 0 0, .slice none 0 0] 29) := ⟨_, rfl⟩
  have HB0 : Hid (Below w.heap.size w W0) := Lib.hid (by rw [hW0]; exact ((Below.refl w.heap.size w).alloc (Nat.le_refl _) _).alloc (by simp) _)
  have h1 : Blk W0 (w.heap.size + 1) 29 #[.int .i64 0, .slice none 0 0, .slice none 0 0, .slice none 0 0, .slice none 0 0, .slice none 0 0, .slice none 0 0, .slice none 0 0, .slice none 0 0, .slice none 0 0, .slice none 0 0] := by
    rw [hW0]
    have := Blk.new (w.alloc (.cells #[.int .i64 m, Vi, Vl, Vo, Vb, Vc, Vj, Vf, Va, Vs, Vt] 29)) 29 #[.int .i64 0, .slice none 0 0, .slice none 0 0, .slice none 0 0, .slice none 0 0, .slice none 0 0, .slice none 0 0, .slice none 0 0, .slice none 0 0, .slice none 0 0, .slice none 0 0]
    simpa using this
  have hord := Order_any W0 _ C (h.below HB0.out) ok
  obtain ⟨r, hr⟩ : ∃ r, (checkR C).2 = r := ⟨_, rfl⟩
  rw [hr, hmm] at hord
  rw [hr] at hz ⊢
  rw [hmm]
  have hq : (r != 0) = true := by simpa using hz
  have HZ := Lib.hid hz
  have HORD := Lib.hid hord
  have H1 := Lib.hid h1
  have HW0 := Lib.hid hW0
  clear h ok hz hr hmm h1 hord hW0
  rw [HW0.out] at HORD
  go_enter Try.func18, Try.ntmps18
  go_upto_region 3 with (go_at_call 12; go_loud (refine HORD.out.mono ?_; rw [← HW0.out]; rintro e w1 ⟨hb1, vg, out, rfl, _, _⟩; have HB1 := Lib.hid hb1; have hbz := H1.out.below hb1 H1.out.lt; have HBZ := Lib.hid hbz; clear hb1 hbz))
  obtain ⟨z0, z1, z2, z3, z4, z5, z6, z7, z8, z9, z10⟩ := box_of HBZ.out
  obtain ⟨y0, y1, y2, y3, y4, y5, y6, y7, y8, y9, y10⟩ := blk_frozen11 HBZ.out
  have hR9 : Blk (set11 w1 (w.heap.size + 1) (.int .i64 0) (.slice none 0 0) (.slice none 0 0) (.slice none 0 0) (.slice none 0 0) (.slice none 0 0) (.slice none 0 0) (.slice none 0 0) (.slice none 0 0) (.slice none 0 0) (.slice none 0 0)) (w.heap.size + 1) 29 #[.int .i64 0, .slice none 0 0, .slice none 0 0, .slice none 0 0, .slice none 0 0, .slice none 0 0, .slice none 0 0, .slice none 0 0, .slice none 0 0, .slice none 0 0, .slice none 0 0] := set11_blk HBZ.out (.int .i64 0) (.slice none 0 0) (.slice none 0 0) (.slice none 0 0) (.slice none 0 0) (.slice none 0 0) (.slice none 0 0) (.slice none 0 0) (.slice none 0 0) (.slice none 0 0) (.slice none 0 0)
  have hB9 : Below w.heap.size w (set11 w1 (w.heap.size + 1) (.int .i64 0) (.slice none 0 0) (.slice none 0 0) (.slice none 0 0) (.slice none 0 0) (.slice none 0 0) (.slice none 0 0) (.slice none 0 0) (.slice none 0 0) (.slice none 0 0) (.slice none 0 0)) := set11_below (bt HB0.out (Nat.le_refl _) HB1.out) (Nat.le_succ _) (.int .i64 0) (.slice none 0 0) (.slice none 0 0) (.slice none 0 0) (.slice none 0 0) (.slice none 0 0) (.slice none 0 0) (.slice none 0 0) (.slice none 0 0) (.slice none 0 0) (.slice none 0 0)
  obtain ⟨wq, hwq⟩ : ∃ wq, wq = (set11 w1 (w.heap.size + 1) (.int .i64 0) (.slice none 0 0) (.slice none 0 0) (.slice none 0 0) (.slice none 0 0) (.slice none 0 0) (.slice none 0 0) (.slice none 0 0) (.slice none 0 0) (.slice none 0 0) (.slice none 0 0)) := ⟨_, rfl⟩
  rw [← hwq] at hR9 hB9
  unfold set11 at hwq
  have HR9 := Lib.hid hR9
  have HB9 := Lib.hid hB9
  have HWQ := Lib.hid hwq
  clear hR9 hB9 hwq
  go_wp2
  rw [← HWQ.out]
  refine bodyPost_ret (results_cell_two (fn := Try.f18) (p := 2) (q := 3) (r := 4) rfl _ wq (w.heap.size + 1) 29 #[.int .i64 0, .slice none 0 0, .slice none 0 0, .slice none 0 0, .slice none 0 0, .slice none 0 0, .slice none 0 0, .slice none 0 0, .slice none 0 0, .slice none 0 0, .slice none 0 0] (0, 0) _ rfl HR9.out Try.underlying29 rfl (by kernel_rfl) _ _ rfl rfl) rfl ?_
  exact ⟨HB9.out, rfl⟩
end Go.Proofs.Ytfcjdfjobneeeaa

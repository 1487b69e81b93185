/- Encode: the contracts of Gates, Step and Model. -/
import Derived.Test.YtbgdhfnfbahdhabEncB
namespace Go.Proofs.Ytbgdhfnfbahdhab
open Go.RowKit

def gatesF (C : Circ) : List (List Int) := if (checkR C).2 = 0 then formC C.ands else []
def varsF (C : Circ) : Int := if (checkR C).2 = 0 then C.max + 1 else 0
theorem crow_none (w : World) (B : Nat) : CRow w B (.slice none 0 0) [] [] :=
  ⟨rfl, World.ownsRow_nil _ _ _ _, fun i u zs hu _ => by simp at hu, fun i j a b _ ha _ => by simp at ha⟩

set_option maxHeartbeats 4000000 in
set_option maxRecDepth 100000 in
theorem Gates_any (w : World) (V : CV) (C : Circ) (h : C.In w V) (ok : C.Ok) :
    Calls Try.prog 6 #[V.val C.max] w fun e w' => Below w.heap.size w w' ∧ ∃ v us, e = .returned (.tuple #[.agg #[.int .i64 (varsF C), v], .int .i64 (checkR C).2]) ∧ CRow w' w.heap.size v us (gatesF C) := by
  obtain ⟨W0, hW0⟩ : ∃ W0, (w.alloc (.cells (V.cells C.max) 29)).alloc (.cells #[.int .i64 0, .slice none 0 0] 34) = W0 := ⟨_, rfl⟩
  have HB0 : Hid (Below w.heap.size w W0) := Lib.hid (by rw [← hW0]; exact ((Below.refl w.heap.size w).alloc (Nat.le_refl _) _).alloc (by simp) _)
  have HX0 : Hid (Blk W0 w.heap.size 29 (V.cells C.max)) := Lib.hid (by rw [← hW0]; exact (Blk.new w _ _).alloc _)
  have H1 : Hid (Blk W0 (w.heap.size + 1) 34 #[.int .i64 0, .slice none 0 0]) := Lib.hid (by
    rw [← hW0]
    have := Blk.new (w.alloc (.cells (V.cells C.max) 29)) 34 #[.int .i64 0, .slice none 0 0]
    simpa using this)
  have HCK := Lib.hid (Check_any W0 V C (h.below HB0.out) ok)
  have HIN := Lib.hid (h.below HB0.out)
  have HW0 := Lib.hid hW0
  have HS0 : Hid (W0.heap.size = w.heap.size + 1 + 1) := Lib.hid (by rw [← hW0]; simp)
  obtain ⟨a, r, hrr⟩ : ∃ a r, checkR C = (a, r) := ⟨_, _, rfl⟩
  have HRR : Hid ((checkR C).2 = r) := Lib.hid (by rw [hrr])
  rw [hrr] at HCK
  have hbx : W0.heap[w.heap.size]? = some (.cells (V.cells C.max) 29 (0, 0)) := HX0.out
  have HBX := Lib.hid hbx
  clear hW0 h ok hbx
  by_cases h0 : r = 0
  · subst h0
    have HF := Lib.hid (formulaOf_any)
    obtain ⟨m, hm⟩ : ∃ m : Nat, C.max = (m : Int) := ⟨C.max.toNat, by have := (right_of HRR.out).m0; omega⟩
    have hm1 : m ≤ 16384 := by have := (right_of HRR.out).m1; omega
    have HZ := Lib.hid (gates_in HRR.out hm)
    have HNA := Lib.hid (right_of HRR.out).na
    have e1 : gatesF C = formC C.ands := if_pos HRR.out
    have e2 : varsF C = (m : Int) + 1 := by unfold varsF; rw [if_pos HRR.out, hm]
    rw [hrr, e1, e2]
    rw [hm] at HX0 HBX HCK HW0 ⊢
    clear e1 e2 hm hrr
    go_enter Try.func6, Try.ntmps6
    go_upto_region 1 with (fail)
    rw [HW0.out]
    go_upto_region 2 with (first
      | (refine wpList_load_row rfl 29 (.tmp 1) rfl w.heap.size rfl 29 (V.cells m) (0, 0) _ HBX.out Try.underlying29 rfl (by kernel_rfl) ?_)
      | (go_at_call 12; refine HCK.out.mono ?_; rintro e w1 ⟨rfl, hb1⟩; have HB1 := Lib.hid hb1; clear hb1))
    have hbx1 : w1.heap[w.heap.size]? = some (.cells (V.cells m) 29 (0, 0)) := HX0.out.below HB1.out HX0.out.lt
    have HBX1 := Lib.hid hbx1
    obtain ⟨AA, ca, ea, _, _, _⟩ := HIN.out.a
    have c8 := (HX0.out.below HB1.out HX0.out.lt).cell 8
    simp only [List.getElem?_toArray, List.getElem?_cons_zero, List.getElem?_cons_succ, CV.cells, ea] at c8
    have HEA := Lib.hid ea
    have HF1 : Hid (Calls Try.prog 13 #[V.val m, .slice AA C.ands.length ca] w1 fun e w' => Below w1.heap.size w1 w' ∧ ∃ v us, e = .returned (.agg #[.int .i64 ((m : Int) + 1), v]) ∧ CRow w' w1.heap.size v us (formC C.ands)) := Lib.hid (by
      have := formulaOf_any w1 V m V.a C.ands hm1 (HIN.out.a.below HB1.out) HNA.out HZ.out
      rwa [HEA.out] at this)
    have HR1 := Lib.hid (H1.out.below HB1.out H1.out.lt)
    clear hbx1 ea HF
    go_wp2_with (first
      | (refine wpList_load_row rfl 29 (.tmp 1) rfl w.heap.size rfl 29 (V.cells m) (0, 0) _ HBX1.out Try.underlying29 rfl (by kernel_rfl) ?_)
      | (go_at_call 13; refine HF1.out.mono ?_; rintro e w2 ⟨hb2, v, us, rfl, hc2⟩; obtain ⟨vA, vc, hve⟩ := own_slice_k hc2.own; subst hve; have HB2 := Lib.hid hb2; have HC2 := Lib.hid hc2; have HR2 := Lib.hid (HR1.out.below hb2 HR1.out.lt); have r0 := HR2.out.cell 0; have r1 := HR2.out.cell 1; have rf0 := HR2.out.frozen 0; have rf1 := HR2.out.frozen 1; have rl := HR2.out.lt; simp only [List.getElem?_toArray, List.getElem?_cons_zero, List.getElem?_cons_succ] at r0 r1; clear hb2 hc2))
    have hw9 : Blk ((w2.setCell ⟨w.heap.size + 1, 0, none⟩ (.int .i64 ((m : Int) + 1))).setCell ⟨w.heap.size + 1, 1, none⟩ (.slice vA us.length vc)) (w.heap.size + 1) 34 #[.int .i64 ((m : Int) + 1), .slice vA us.length vc] := by
      have := (HR2.out.set_ 0 (.int .i64 ((m : Int) + 1))).set_ 1 (.slice vA us.length vc)
      simpa using this
    refine bodyPost_ret (results_cell_oneE (fn := Try.f6) (p := 2) (q := 3) rfl _ _ (w.heap.size + 1) 34 #[.int .i64 ((m : Int) + 1), .slice vA us.length vc] (0, 0) _ rfl hw9 Try.underlying34 rfl (by kernel_rfl) (.int .i64 0) rfl) rfl ?_
    have hbw := bt (bt HB0.out (Nat.le_refl _) HB1.out) (Nat.le_refl _) HB2.out
    exact ⟨(hbw.setCell (by simp) _).setCell (by simp) _, _, us, rfl, (HC2.out.far HR2.out (by decide) (by decide) (fun k _ hk => (Below.heap_setCell _ _ _ _ hk).trans (Below.heap_setCell _ _ _ _ hk))).base (by have := HB0.out.size; have := HB1.out.size; omega)⟩
  · have hq : (r != 0) = true := by simpa using h0
    have e1 : gatesF C = [] := if_neg (by rw [HRR.out]; exact h0)
    have e2 : varsF C = 0 := if_neg (by rw [HRR.out]; exact h0)
    rw [hrr, e1, e2]
    clear e1 e2 hrr h0
    go_enter Try.func6, Try.ntmps6
    go_upto_region 1 with (fail)
    rw [HW0.out]
    go_wp2_with (first
      | (refine wpList_load_row rfl 29 (.tmp 1) rfl w.heap.size rfl 29 (V.cells C.max) (0, 0) _ HBX.out Try.underlying29 rfl (by kernel_rfl) ?_)
      | (go_at_call 12; refine HCK.out.mono ?_; rintro e w1 ⟨rfl, hb1⟩; have HB1 := Lib.hid hb1; have HR1 := Lib.hid (H1.out.below hb1 H1.out.lt); have r0 := HR1.out.cell 0; have r1 := HR1.out.cell 1; have rf0 := HR1.out.frozen 0; have rf1 := HR1.out.frozen 1; have rl := HR1.out.lt; simp only [List.getElem?_toArray, List.getElem?_cons_zero, List.getElem?_cons_succ] at r0 r1; clear hb1))
    have hw9 : Blk ((w1.setCell ⟨w.heap.size + 1, 0, none⟩ (.int .i64 0)).setCell ⟨w.heap.size + 1, 1, none⟩ (.slice none 0 0)) (w.heap.size + 1) 34 #[.int .i64 0, .slice none 0 0] := by
      have := (HR1.out.set_ 0 (.int .i64 0)).set_ 1 (.slice none 0 0)
      simpa using this
    refine bodyPost_ret (results_cell_oneE (fn := Try.f6) (p := 2) (q := 3) rfl _ _ (w.heap.size + 1) 34 #[.int .i64 0, .slice none 0 0] (0, 0) _ rfl hw9 Try.underlying34 rfl (by kernel_rfl) (.int .i64 r) rfl) rfl ?_
    exact ⟨((bt HB0.out (Nat.le_refl _) HB1.out).setCell (by simp) _).setCell (by simp) _, _, [], rfl, crow_none _ _⟩
end Go.Proofs.Ytbgdhfnfbahdhab

/- Cone: the contract of cutOf, of a bad. -/
import Derived.Test.YtagffmalmkcboaaConG
import Derived.Test.YtagffmalmkcboaaRenE
namespace Go.Proofs.Ytagffmalmkcboaa
open Go.RowKit Go.Maps

theorem build_lat (a b c : Int) (w : World) : (Instr.build 64 #[(0, .int .i64 a), (1, .int .i64 b), (2, .int .i64 c)]).run Try.prog w = .ok (.agg #[.int .i64 a, .int .i64 b, .int .i64 c]) w := run_build w _ _ _ (by kernel_rfl)
theorem build_gat (a b c : Int) (w : World) : (Instr.build 66 #[(0, .int .i64 a), (1, .int .i64 b), (2, .int .i64 c)]).run Try.prog w = .ok (.agg #[.int .i64 a, .int .i64 b, .int .i64 c]) w := run_build w _ _ _ (by kernel_rfl)
theorem build_cut (m : Int) (A0 : Option Addr) (n0 c0 : Nat) (A1 : Option Addr) (n1 c1 : Nat) (A2 : Option Addr) (n2 c2 : Nat) (A3 : Option Addr) (n3 c3 : Nat) (A4 : Option Addr) (n4 c4 : Nat) (A5 : Option Addr) (n5 c5 : Nat) (A6 : Option Addr) (n6 c6 : Nat) (A7 : Option Addr) (n7 c7 : Nat) (A8 : Option Addr) (n8 c8 : Nat) (A9 : Option Addr) (n9 c9 : Nat) (A10 : Option Addr) (n10 c10 : Nat) (A11 : Option Addr) (n11 c11 : Nat) (A12 : Option Addr) (n12 c12 : Nat) (w : World) : (Instr.build 34 #[(0, .agg #[.int .i64 m, .slice A0 n0 c0, .slice A1 n1 c1, .slice A2 n2 c2, .slice A3 n3 c3, .slice A4 n4 c4, .slice A5 n5 c5, .slice A6 n6 c6, .slice A7 n7 c7, .slice A8 n8 c8, .slice A9 n9 c9]), (1, .slice A10 n10 c10), (2, .slice A11 n11 c11), (3, .slice A12 n12 c12)]).run Try.prog w = .ok (.agg #[.int .i64 m, .slice A0 n0 c0, .slice A1 n1 c1, .slice A2 n2 c2, .slice A3 n3 c3, .slice A4 n4 c4, .slice A5 n5 c5, .slice A6 n6 c6, .slice A7 n7 c7, .slice A8 n8 c8, .slice A9 n9 c9, .slice A10 n10 c10, .slice A11 n11 c11, .slice A12 n12 c12]) w := by kernel_rfl
theorem wpList_buildC {P : Program} {ops : Array Oper} {rest : List Oper} {o : Oper} {a : Act} {w : World} {Q : Exit → Act → World → Prop} (hg : o.guard = none) (ty : TypeId) (fs : Array (Nat × Operand)) (hop : o.op = .build ty fs) (vs : Array (Nat × Value)) (hvs : (fs.toList.map fun p => (p.1, a.eval p.2)) = vs.toList) (v : Value)
    (hrun : (Instr.build ty vs).run P w = .ok v w) (h : wpList P ops Q rest (a.put o.dst v) w) : wpList P ops Q (o :: rest) a w := by
  have hvs : (fs.map fun (i, x) => (i, a.eval x)) = vs := Array.toList_inj.1 (by rw [Array.toList_map]; exact hvs)
  subst hvs
  refine wpList_plain hg fun K' hK' => ?_
  unfold Oper.wp
  simp only [execOp, hop]
  have : (do pure (Next.value (← Instr.build ty (fs.map fun (i, x) => (i, a.eval x)))) : Sem Next).run P w = .ok (.value v) w := run_value hrun
  rw [show (Sem.run P (do let __do_lift ← Instr.build ty (fs.map fun x => match x with | (i, x) => (i, a.eval x)); pure (Next.value __do_lift)) w) = .ok (.value v) w from this]
  exact hK' _ _ h
theorem infoLatC : (Try.prog.info? 64).map (fun i => (i.zero, i.size, i.bytes)) = some (some (.agg #[.int .i64 0, .int .i64 0, .int .i64 0]), 3, 24) := by kernel_rfl
theorem infoGatC : (Try.prog.info? 66).map (fun i => (i.zero, i.size, i.bytes)) = some (some (.agg #[.int .i64 0, .int .i64 0, .int .i64 0]), 3, 24) := by kernel_rfl
theorem reads_triC (w : World) (a b c : Value) (t : TypeId) : Reads (w.alloc (.cells #[a, b, c] t)) (w.heap.size + 1) 3 (some ⟨w.heap.size, 0, none⟩) 1 [a, b, c] := by
  refine ⟨rfl, fun _ => ⟨_, rfl, by simp, fun j u hu => ?_⟩⟩
  rw [add_none, Nat.zero_add, cell_of_row _ _ _ #[a, b, c] t (0, 0) (heap_alloc_new w _)]
  simpa using hu
def of3 (M : List Int) (z : Tri) : Tri := (ofF M z.1, ofF M z.2.1, ofF M z.2.2)
def cutX (C : Circ) (s : List Bool) (a : Nat) : Circ where
  max := ((cutI C s).length + (cutL C s).length + (cutA C s).length : Nat)
  inputs := (cutI C s).map (ofF (litM C s))
  latches := (cutL C s).map (of3 (litM C s))
  outputs := []
  bads := [ofF (litM C s) (C.bads.getD a 0)]
  constraints := C.constraints.map (ofF (litM C s))
  justice := []
  fairness := []
  ands := (cutA C s).map (of3 (litM C s))
  symbols := []
  comments := []
abbrev cutCells (V : CV) (m : Int) (lv iv tv : Value) : Array Value := #[.int .i64 m, V.i, V.l, V.o, V.b, V.c, V.j, V.f, V.a, V.s, V.t, lv, iv, tv]
structure CutR (B : Nat) (w : World) (V : CV) (lv iv tv : Value) (C : Circ) (s : List Bool) (a : Nat) : Prop where
  i : w.ownsRow B 3 1 V.i (cutX C s a).inputs.length ((cutX C s a).inputs.map (Value.int .i64))
  l : w.ownsRow B 64 3 V.l (cutX C s a).latches.length ((cutX C s a).latches.flatMap encT)
  b : w.ownsRow B 3 1 V.b (cutX C s a).bads.length ((cutX C s a).bads.map (Value.int .i64))
  c : w.ownsRow B 3 1 V.c (cutX C s a).constraints.length ((cutX C s a).constraints.map (Value.int .i64))
  a : w.ownsRow B 66 3 V.a (cutX C s a).ands.length ((cutX C s a).ands.flatMap encT)
  zo : V.o = .slice none 0 0
  zj : V.j = .slice none 0 0
  zf : V.f = .slice none 0 0
  zs : V.s = .slice none 0 0
  zt : V.t = .slice none 0 0
  m : ∃ g, lv = .slice (some ⟨g, 0, none⟩) (C.max.toNat + 1) (C.max.toNat + 1) ∧ B ≤ g ∧ Nums w g (litM C s)
  iv : w.ownsRow B 3 1 iv (numsF s C.inputs 0).length ((numsF s C.inputs 0).map (Value.int .i64))
  tv : w.ownsRow B 3 1 tv (numsF s (C.latches.map (·.1)) 0).length ((numsF s (C.latches.map (·.1)) 0).map (Value.int .i64))
structure CutS (W4 wr : World) (bo : Nat) (mx : Int) (gr nc : Nat) (vi vl va : Value) (xi : List Int) (xl xa : List Tri) : Prop where
  below : Below bo W4 wr
  box : Blk wr bo 29 #[.int .i64 mx, vi, vl, .slice none 0 0, .slice none 0 0, .slice (some ⟨gr, 0, none⟩) nc nc, .slice none 0 0, .slice none 0 0, va, .slice none 0 0, .slice none 0 0]
  i : wr.ownsRow (bo + 1) 3 1 vi xi.length (xi.map (Value.int .i64))
  l : wr.ownsRow (bo + 1) 64 3 vl xl.length (xl.flatMap encT)
  a : wr.ownsRow (bo + 1) 66 3 va xa.length (xa.flatMap encT)
section
variable {W4 wr w1 w5 : World} {bo : Nat} {mx : Int} {gr nc : Nat} {vi vl va v5 : Value} {xi : List Int} {xl xa : List Tri}
theorem CutS.alloc (h : CutS W4 wr bo mx gr nc vi vl va xi xl xa) (o : Obj) : CutS W4 (wr.alloc o) bo mx gr nc vi vl va xi xl xa :=
  ⟨h.below.trans ⟨rfl, rfl, rfl, by simp, fun k hk => Below.heap_alloc _ _ _ (by have := h.box.lt; omega)⟩, h.box.alloc o, h.i.alloc o, h.l.alloc o, h.a.alloc o⟩
theorem CutS.drew (h : CutS W4 wr bo mx gr nc vi vl va xi xl xa) : CutS W4 wr.drew bo mx gr nc vi vl va xi xl xa :=
  ⟨h.below.drew, h.box, own_of_block h.i fun _ _ => rfl, own_of_block h.l fun _ _ => rfl, own_of_block h.a fun _ _ => rfl⟩
theorem grown_below {B : Nat} {row : Option Nat} (hg : wr.grownBy w5 row) (hB : B ≤ wr.heap.size) (hr : ∀ k, row = some k → B ≤ k) : Below B wr w5 := (Below.refl B wr).grown hg hB hr
theorem CutS.addI (h : CutS W4 wr bo mx gr nc vi vl va xi xl xa) {x : Int} (ho : w5.ownsRow (bo + 1) 3 1 v5 (xi.length + 1) (xi.map (Value.int .i64) ++ [.int .i64 x])) (hg : wr.grownBy w5 vi.ownBlock) :
    CutS W4 (w5.setCell ⟨bo, 1, none⟩ v5) bo mx gr nc v5 vl va (xi ++ [x]) xl xa := by
  have hlt := h.box.lt
  have hne : ∀ {t : TypeId} {k n : Nat} {v : Value} {xs : List Value}, w5.ownsRow (bo + 1) t k v n xs → (w5.setCell ⟨bo, 1, none⟩ v5).ownsRow (bo + 1) t k v n xs := fun hh => own_setQ hh _ _ (fun g hgv => by have := (hh.lt g hgv).1; show g ≠ bo; omega)
  have hb5 : Blk w5 bo 29 _ := h.box.grown hg (fun e => by have := (h.i.lt bo e.symm).1; omega)
  refine ⟨(h.below.trans (grown_below hg (by omega) (fun k hk => by have := (h.i.lt k hk).1; omega))).setCell (Nat.le_refl _) _, by simpa using hb5.set_ 1 v5, ?_, hne (own_other h.l h.i (by decide) hg), hne (own_other h.a h.i (by decide) hg)⟩
  have := hne ho
  simpa using this
theorem CutS.addL (h : CutS W4 wr bo mx gr nc vi vl va xi xl xa) {x : Tri} (ho : w5.ownsRow (bo + 1) 64 3 v5 (xl.length + 1) (xl.flatMap encT ++ encT x)) (hg : wr.grownBy w5 vl.ownBlock) :
    CutS W4 (w5.setCell ⟨bo, 2, none⟩ v5) bo mx gr nc vi v5 va xi (xl ++ [x]) xa := by
  have hlt := h.box.lt
  have hne : ∀ {t : TypeId} {k n : Nat} {v : Value} {xs : List Value}, w5.ownsRow (bo + 1) t k v n xs → (w5.setCell ⟨bo, 2, none⟩ v5).ownsRow (bo + 1) t k v n xs := fun hh => own_setQ hh _ _ (fun g hgv => by have := (hh.lt g hgv).1; show g ≠ bo; omega)
  have hb5 : Blk w5 bo 29 _ := h.box.grown hg (fun e => by have := (h.l.lt bo e.symm).1; omega)
  refine ⟨(h.below.trans (grown_below hg (by omega) (fun k hk => by have := (h.l.lt k hk).1; omega))).setCell (Nat.le_refl _) _, by simpa using hb5.set_ 2 v5, hne (own_other h.i h.l (by decide) hg), ?_, hne (own_other h.a h.l (by decide) hg)⟩
  have := hne ho
  rw [List.flatMap_append, List.length_append]
  simpa using this
theorem CutS.addA (h : CutS W4 wr bo mx gr nc vi vl va xi xl xa) {x : Tri} (ho : w5.ownsRow (bo + 1) 66 3 v5 (xa.length + 1) (xa.flatMap encT ++ encT x)) (hg : wr.grownBy w5 va.ownBlock) :
    CutS W4 (w5.setCell ⟨bo, 8, none⟩ v5) bo mx gr nc vi vl v5 xi xl (xa ++ [x]) := by
  have hlt := h.box.lt
  have hne : ∀ {t : TypeId} {k n : Nat} {v : Value} {xs : List Value}, w5.ownsRow (bo + 1) t k v n xs → (w5.setCell ⟨bo, 8, none⟩ v5).ownsRow (bo + 1) t k v n xs := fun hh => own_setQ hh _ _ (fun g hgv => by have := (hh.lt g hgv).1; show g ≠ bo; omega)
  have hb5 : Blk w5 bo 29 _ := h.box.grown hg (fun e => by have := (h.a.lt bo e.symm).1; omega)
  refine ⟨(h.below.trans (grown_below hg (by omega) (fun k hk => by have := (h.a.lt k hk).1; omega))).setCell (Nat.le_refl _) _, by simpa using hb5.set_ 8 v5, hne (own_other h.i h.a (by decide) hg), hne (own_other h.l h.a (by decide) hg), ?_⟩
  have := hne ho
  rw [List.flatMap_append, List.length_append]
  simpa using this
end

set_option maxHeartbeats 20000000 in
set_option maxRecDepth 100000 in
theorem cutB_any (w : World) (V : CV) (C : Circ) (a g : Nat) (s : List Bool) (h : C.In w V) (hz : (checkR C).2 = 0) (ha : a < C.bads.length) (ht : Tab w g s) (hsl : s.length = C.max.toNat + 1) :
    Calls Try.prog 27 #[V.val C.max, .agg #[.int .u8 98, .int .i64 a], .slice (some ⟨g, 0, none⟩) (C.max.toNat + 1) (C.max.toNat + 1)] w fun e w' => ∃ (V' : CV) (lv iv tv : Value), e = .returned (.agg (cutCells V' (cutX C s a).max lv iv tv)) ∧ Below w.heap.size w w' ∧ CutR w.heap.size w' V' lv iv tv C s a := by
  obtain ⟨W2, hW2⟩ : ∃ W2, ((w.alloc (.cells (V.cells C.max) 29)).alloc (.cells #[.int .u8 98, .int .i64 a] 31)).alloc (.cells #[.int .i64 0, .slice none 0 0, .slice none 0 0, .slice none 0 0, .slice none 0 0, .slice none 0 0, .slice none 0 0, .slice none 0 0, .slice none 0 0, .slice none 0 0, .slice none 0 0, .slice none 0 0, .slice none 0 0, .slice none 0 0] 34) = W2 := ⟨_, rfl⟩
  have HW2 := Lib.hid hW2
  have hB2 : Below w.heap.size w W2 := by rw [← hW2]; exact (((Below.refl _ _).alloc (Nat.le_refl _) _).alloc (by simp) _).alloc (by simp; omega) _
  have hX2 : Blk W2 w.heap.size 29 (V.cells C.max) := by rw [← hW2]; exact ((Blk.new w _ _).alloc _).alloc _
  have hP2 : Blk W2 (w.heap.size + 1) 31 #[.int .u8 98, .int .i64 a] := by
    rw [← hW2]
    have := (Blk.new (w.alloc (.cells (V.cells C.max) 29)) 31 #[.int .u8 98, .int .i64 a]).alloc (.cells #[.int .i64 0, .slice none 0 0, .slice none 0 0, .slice none 0 0, .slice none 0 0, .slice none 0 0, .slice none 0 0, .slice none 0 0, .slice none 0 0, .slice none 0 0, .slice none 0 0, .slice none 0 0, .slice none 0 0, .slice none 0 0] 34)
    rwa [show (w.alloc (.cells (V.cells C.max) 29)).heap.size = w.heap.size + 1 by simp] at this
  have hQ2 : Blk W2 (w.heap.size + 2) 34 #[.int .i64 0, .slice none 0 0, .slice none 0 0, .slice none 0 0, .slice none 0 0, .slice none 0 0, .slice none 0 0, .slice none 0 0, .slice none 0 0, .slice none 0 0, .slice none 0 0, .slice none 0 0, .slice none 0 0, .slice none 0 0] := by
    rw [← hW2]
    have := Blk.new ((w.alloc (.cells (V.cells C.max) 29)).alloc (.cells #[.int .u8 98, .int .i64 a] 31)) 34 #[.int .i64 0, .slice none 0 0, .slice none 0 0, .slice none 0 0, .slice none 0 0, .slice none 0 0, .slice none 0 0, .slice none 0 0, .slice none 0 0, .slice none 0 0, .slice none 0 0, .slice none 0 0, .slice none 0 0, .slice none 0 0]
    rwa [show ((w.alloc (.cells (V.cells C.max) 29)).alloc (.cells #[.int .u8 98, .int .i64 a] 31)).heap.size = w.heap.size + 2 by simp] at this
  have hr := right_of hz
  have hfi := fine_of hz
  have HRT := Lib.hid hr
  have HIN := Lib.hid (fun wz (hz : Below W2.heap.size W2 wz) => h.below (bt hB2 (Nat.le_refl _) hz))
  have HTB := Lib.hid (fun wz (hz : Below W2.heap.size W2 wz) => (show Tab wz g s from Blk.below ht (bt hB2 (Nat.le_refl _) hz) (Blk.lt ht)))
  have HI := Lib.hid (fun wz (hz : Below W2.heap.size W2 wz) => inputs_any wz V C (HIN.out wz hz) hfi hr g s (HTB.out wz hz) hsl)
  have HL := Lib.hid (fun wz (hz : Below W2.heap.size W2 wz) => latches_any wz V C (HIN.out wz hz) hfi hr g s (HTB.out wz hz) hsl)
  have HG := Lib.hid (fun wz (hz : Below W2.heap.size W2 wz) => gates_any wz V C (HIN.out wz hz) hfi hr g s (HTB.out wz hz) hsl)
  have HNL := Lib.hid (fun wz (vi vl va : Value) (hz : Below W2.heap.size W2 wz) => newLits_any wz V C s vi vl va (HIN.out wz hz) hr)
  have HB2 := Lib.hid hB2
  have hm1 := hr.m1
  obtain ⟨Vi, Vl, Vo, Vb, Vc, Vj, Vf, Va, Vs, Vt⟩ := V
  have HC : Hid (∀ wz, Below W2.heap.size W2 wz → wz.cell? ⟨w.heap.size, 0, none⟩ = some (.int .i64 C.max) ∧ wz.cell? ⟨w.heap.size, 1, none⟩ = some Vi ∧ wz.cell? ⟨w.heap.size, 2, none⟩ = some Vl ∧ wz.cell? ⟨w.heap.size, 3, none⟩ = some Vo ∧ wz.cell? ⟨w.heap.size, 4, none⟩ = some Vb ∧ wz.cell? ⟨w.heap.size, 5, none⟩ = some Vc ∧ wz.cell? ⟨w.heap.size, 6, none⟩ = some Vj ∧ wz.cell? ⟨w.heap.size, 7, none⟩ = some Vf ∧ wz.cell? ⟨w.heap.size, 8, none⟩ = some Va ∧ wz.cell? ⟨w.heap.size, 9, none⟩ = some Vs ∧ wz.cell? ⟨w.heap.size, 10, none⟩ = some Vt) := Lib.hid (fun wz hz => by
    have q1 := hX2.below hz hX2.lt
    exact ⟨q1.cell 0, q1.cell 1, q1.cell 2, q1.cell 3, q1.cell 4, q1.cell 5, q1.cell 6, q1.cell 7, q1.cell 8, q1.cell 9, q1.cell 10⟩)
  have HX2 := Lib.hid hX2
  have HP2 := Lib.hid hP2
  have HQ2 := Lib.hid hQ2
  obtain ⟨nx, hnx⟩ : ∃ nx, C.max.toNat + 1 = nx := ⟨_, rfl⟩
  rw [hnx] at HI HL HG HNL ⊢
  have HNX := Lib.hid hnx
  clear hX2 hP2 hQ2 hr hW2 hnx hfi
  go_enter Try.func27, Try.ntmps27
  go_upto_region 1 with (fail)
  rw [HW2.out]
  refine wp_region_T (by kernel_rfl) (fun wz => wz.cell? ⟨w.heap.size, 0, none⟩ = some (.int .i64 C.max) ∧ wz.cell? ⟨w.heap.size, 1, none⟩ = some Vi ∧ wz.cell? ⟨w.heap.size, 2, none⟩ = some Vl ∧ wz.cell? ⟨w.heap.size, 3, none⟩ = some Vo ∧ wz.cell? ⟨w.heap.size, 4, none⟩ = some Vb ∧ wz.cell? ⟨w.heap.size, 5, none⟩ = some Vc ∧ wz.cell? ⟨w.heap.size, 6, none⟩ = some Vj ∧ wz.cell? ⟨w.heap.size, 7, none⟩ = some Vf ∧ wz.cell? ⟨w.heap.size, 8, none⟩ = some Va ∧ wz.cell? ⟨w.heap.size, 9, none⟩ = some Vs ∧ wz.cell? ⟨w.heap.size, 10, none⟩ = some Vt) 12 ?_
  have HD0 : Hid (Below W2.heap.size W2 W2.drew) := Lib.hid (Below.refl _ _).drew
  have hHeld := HC.out _ HD0.out
  refine wpAnyT_take (i := 0) (v := ?v0r1q1) rfl (by kernel_rfl) (fun _ _ _ h => h) (by rfl) hHeld ?h0r1q1 ?_
  case h0r1q1 => (intro w' hSw; (try dsimp only at hSw); go_simp; try with_reducible rfl)
  (try simp only [Act.put, List.setIfInBounds_toArray])
  refine wpAnyT_take (i := 1) (v := ?v1r1q1) rfl (by kernel_rfl) (fun _ _ _ h => h) (by rfl) hHeld ?h1r1q1 ?_
  case h1r1q1 => (intro w' hSw; (try dsimp only at hSw); go_simp; try with_reducible rfl)
  (try simp only [Act.put])
  refine wpAnyT_take (i := 3) (v := ?v3r1q2) rfl (by kernel_rfl) (fun _ _ _ h => h) (by rfl) hHeld ?h3r1q2 ?_
  case h3r1q2 => (intro w' hSw; (try dsimp only at hSw); go_simp; try with_reducible rfl)
  (try simp only [Act.put])
  refine wpAnyT_take (i := 4) (v := ?v4r1q2) rfl (by kernel_rfl) (fun _ _ _ h => h) (by rfl) hHeld ?h4r1q2 ?_
  case h4r1q2 => (intro w' hSw; (try dsimp only at hSw); go_simp; try with_reducible rfl)
  (try simp only [Act.put])
  refine wpAnyT_take (i := 6) (v := ?v6r1q3) rfl (by kernel_rfl) (fun _ _ _ h => h) (by rfl) hHeld ?h6r1q3 ?_
  case h6r1q3 => (intro w' hSw; (try dsimp only at hSw); go_simp; try with_reducible rfl)
  (try simp only [Act.put])
  refine wpAnyT_take (i := 7) (v := ?v7r1q3) rfl (by kernel_rfl) (fun _ _ _ h => h) (by rfl) hHeld ?h7r1q3 ?_
  case h7r1q3 => (intro w' hSw; (try dsimp only at hSw); go_simp; try with_reducible rfl)
  (try simp only [Act.put])
  clear hHeld
  refine wpAnyT_one (i := 2) rfl (by kernel_rfl) (fun K hK => ?_)
  go_simp
  go_at_call 47
  refine (HI.out _ HD0.out).mono ?_
  rintro e w3 ⟨v, rfl, ho3, hb3⟩
  obtain ⟨AI, cI, rfl⟩ := own_slice1 ho3
  have HB3 := Lib.hid (bt HD0.out (Nat.le_refl _) hb3)
  have HO3 := Lib.hid ho3
  refine hK.out _ _ (fun _ => HC.out _ HB3.out) ?_
  clear hK K ho3 hb3
  (try simp only [Act.put, zA, zB, zC])
  refine wpAnyT_one (i := 5) rfl (by kernel_rfl) (fun K hK => ?_)
  go_simp
  go_at_call 48
  refine (HL.out _ HB3.out).mono ?_
  rintro e w4 ⟨v, rfl, ho4, hb4⟩
  obtain ⟨AL, cL, rfl⟩ := own_slice1 ho4
  have HB4 := Lib.hid (bt HB3.out (Nat.le_refl _) hb4)
  have HO34 := Lib.hid (own_below HO3.out hb4)
  have HO4 := Lib.hid ho4
  refine hK.out _ _ (fun _ => HC.out _ HB4.out) ?_
  clear hK K ho4 hb4 HO3
  (try simp only [Act.put, zA, zB, zC])
  refine wpAnyT_one (i := 8) rfl (by kernel_rfl) (fun K hK => ?_)
  go_simp
  go_at_call 49
  refine (HG.out _ HB4.out).mono ?_
  rintro e w5 ⟨v, rfl, ho5, hb5⟩
  obtain ⟨AA, cA, rfl⟩ := own_slice1 ho5
  have HB5 := Lib.hid (bt HB4.out (Nat.le_refl _) hb5)
  have HO35 := Lib.hid (own_below HO34.out hb5)
  have HO45 := Lib.hid (own_below HO4.out hb5)
  have HO5 := Lib.hid ho5
  refine hK.out _ _ (fun _ => HC.out _ HB5.out) ?_
  clear hK K ho5 hb5 HO34 HO4
  (try simp only [Act.put, zA, zB, zC])
  have hHeld := HC.out _ HB5.out
  refine wpAnyT_take (i := 9) (v := ?v9r1q4) rfl (by kernel_rfl) (fun _ _ _ h => h) (by rfl) hHeld ?h9r1q4 ?_
  case h9r1q4 => (intro w' hSw; (try dsimp only at hSw); go_simp; try with_reducible rfl)
  (try simp only [Act.put, List.setIfInBounds_toArray])
  refine wpAnyT_take (i := 10) (v := ?v10r1q4) rfl (by kernel_rfl) (fun _ _ _ h => h) (by rfl) hHeld ?h10r1q4 ?_
  case h10r1q4 => (intro w' hSw; (try dsimp only at hSw); go_simp; try with_reducible rfl)
  (try simp only [Act.put])
  refine wpAnyT_take (i := 11) (v := ?v11r1q4) rfl (by kernel_rfl) (fun _ _ _ h => h) (by rfl) hHeld ?h11r1q4 ?_
  case h11r1q4 => (intro w' hSw; (try dsimp only at hSw); go_simp; try with_reducible rfl)
  (try simp only [Act.put])
  clear hHeld
  refine wpAnyT_done (by kernel_rfl) ?_
  have hHC := HC.out _ HB5.out
  have HBX5 : Hid (w5.heap[w.heap.size]? = some (.cells (({ i := Vi, l := Vl, o := Vo, b := Vb, c := Vc, j := Vj, f := Vf, a := Va, s := Vs, t := Vt } : CV).cells C.max) 29 (0, 0))) := Lib.hid (HX2.out.below HB5.out HX2.out.lt)
  clear hHC
  go_upto_region 3 with (first
    | (refine wpList_load_row rfl 29 (.tmp 3) rfl w.heap.size rfl 29 (({ i := Vi, l := Vl, o := Vo, b := Vb, c := Vc, j := Vj, f := Vf, a := Va, s := Vs, t := Vt } : CV).cells C.max) (0, 0) _ HBX5.out Try.underlying29 rfl (by kernel_rfl) ?_)
    | (go_at_call 50; refine (HNL.out w5 _ _ _ HB5.out (own_rowe lenI (by rw [flat_ints]; exact HO35.out)) (own_rowe lenI (by rw [flat_ints]; exact HO45.out)) (own_rowe lenI (by rw [flat_ints]; exact HO5.out))).mono ?_; rintro e w6 ⟨gm, rfl, hgm, hb6, hnu⟩; have HB6 := Lib.hid (bt HB5.out (Nat.le_refl _) hb6); have HO6I := Lib.hid (own_below HO35.out hb6); have HO6L := Lib.hid (own_below HO45.out hb6); have HO6A := Lib.hid (own_below HO5.out hb6); have HLR : Hid (LitRow w6 gm nx (litM C s)) := Lib.hid ⟨hnu, by rw [litM_len, HNX.out]⟩; clear hb6 hnu))
  have hfm := fitM_lit HRT.out s
  have HFM := Lib.hid hfm
  obtain ⟨M, hM⟩ : ∃ M, litM C s = M := ⟨_, rfl⟩
  rw [hM] at HLR HFM
  have HMM := Lib.hid hM
  have hnx2 : nx ≤ 20000 := by have := HNX.out; omega
  have HALL := Lib.hid (litAll_any w6 gm nx M Vc C.constraints HLR.out HFM.out hnx2 (HIN.out _ HB6.out).c (fun l hl => by have := HRT.out.c l hl; have h9 := HNX.out; have h8 := HRT.out.m0; unfold LitOk at this; unfold vOf; omega) (by have := HRT.out.nc; omega))
  obtain ⟨c0, c1, c2, c3, c4, c5, c6, c7, c8, c9, c10⟩ := HC.out _ HB6.out
  have hlI := selF_len id s C.inputs 0
  have hlL := selF_len (fun z : Tri => z.1) s C.latches 0
  have hlA := selF_len (fun z : Tri => z.1) s C.ands 0
  rw [List.map_id] at hlI
  obtain ⟨hcI, hcL, hcA⟩ := cutD_len HRT.out s
  have HLI : Hid ((numsF s C.inputs 0).length = (cutI C s).length) := Lib.hid hlI
  have HLL : Hid ((numsF s (C.latches.map (·.1)) 0).length = (cutL C s).length) := Lib.hid hlL
  have HLA : Hid ((numsF s (C.ands.map (·.1)) 0).length = (cutA C s).length) := Lib.hid hlA
  rw [HLI.out, HLL.out, HLA.out]
  rw [HLI.out] at HO6I
  rw [HLL.out] at HO6L
  rw [HLA.out] at HO6A
  generalize hmI : (cutI C s).length = mI at *
  generalize hmL : (cutL C s).length = mL at *
  generalize hmA : (cutA C s).length = mA at *
  have HmI := Lib.hid hmI
  have HmL := Lib.hid hmL
  have HmA := Lib.hid hmA
  have hwx1 : IntKind.i64.wrap ((mI : Int) + (mL : Int)) = (mI : Int) + (mL : Int) := by simp [IntKind.wrap, IntKind.bits, IntKind.signed]; omega
  have hwx2 : IntKind.i64.wrap ((mI : Int) + (mL : Int) + (mA : Int)) = (mI : Int) + (mL : Int) + (mA : Int) := by simp [IntKind.wrap, IntKind.bits, IntKind.signed]; omega
  have hw3 : W2.heap.size ≤ w3.heap.size := HB3.out.size
  clear hlI hlL hlA hM hmI hmL hmA HI HL HG HNL hfm HO35 HO45 HO5 HB3 HB4 HBX5
  go_wp2_with (go_at_call 51; refine HALL.out.mono ?_; rintro e w7 ⟨gr, rfl, hgr, hb7, hnu⟩; have HB7 := Lib.hid (bt HB6.out (Nat.le_refl _) hb7); have HO7I := Lib.hid (own_below HO6I.out hb7); have HO7L := Lib.hid (own_below HO6L.out hb7); have HO7A := Lib.hid (own_below HO6A.out hb7); have HCN := Lib.hid hnu; have HLR7 : Hid (LitRow w7 gm nx M) := Lib.hid ⟨Blk.below HLR.out.1 hb7 (Blk.lt HLR.out.1), HLR.out.2⟩; clear hb7 hnu)
  obtain ⟨bo, hbo⟩ : ∃ bo, w7.heap.size = bo := ⟨_, rfl⟩
  obtain ⟨nc, hnc⟩ : ∃ nc, C.constraints.length = nc := ⟨_, rfl⟩
  rw [hbo, hnc]
  have HBO := Lib.hid hbo
  have HNC := Lib.hid hnc
  have hbw : w.heap.size + 3 ≤ bo := by
    have h1 := HQ2.out.lt
    have h2 := HB7.out.size
    omega
  have HS0 : Hid (CutS w7 (w7.alloc (.cells #[.int .i64 ((mI : Int) + (mL : Int) + (mA : Int)), .slice none 0 0, .slice none 0 0, .slice none 0 0, .slice none 0 0, .slice (some ⟨gr, 0, none⟩) nc nc, .slice none 0 0, .slice none 0 0, .slice none 0 0, .slice none 0 0, .slice none 0 0] 29)) bo ((mI : Int) + (mL : Int) + (mA : Int)) gr nc (.slice none 0 0) (.slice none 0 0) (.slice none 0 0) (((cutI C s).take 0).map (ofF M)) [] []) := Lib.hid (by
    refine ⟨(Below.refl _ _).alloc (by omega) _, by rw [← hbo]; exact Blk.new w7 _ _, ?_, ?_, ?_⟩
    · exact World.ownsRow_nil _ _ _ _
    · exact World.ownsRow_nil _ _ _ _
    · exact World.ownsRow_nil _ _ _ _)
  have HCW : Hid (∀ wz, Below bo w7 wz → Below W2.heap.size W2 wz) := Lib.hid (fun wz hz => by rw [← HBO.out] at hz; exact bt HB7.out (Nat.le_refl _) hz)
  have HCA : Hid (∀ wz, Below bo w7 wz → wz.cell? ⟨w.heap.size, 1, none⟩ = some Vi ∧ wz.cell? ⟨w.heap.size, 2, none⟩ = some Vl ∧ wz.cell? ⟨w.heap.size, 8, none⟩ = some Va ∧ wz.cell? ⟨w.heap.size, 4, none⟩ = some Vb) := Lib.hid (fun wz hz => by
    obtain ⟨_, k1, k2, _, k4, _, _, _, k8, _⟩ := HC.out wz (HCW.out wz hz)
    exact ⟨k1, k2, k8, k4⟩)
  have HOF : Hid (∀ (wz : World) (x : Int), Below bo w7 wz → 0 ≤ x → x / 2 ≤ C.max → Calls Try.prog 52 #[.slice (some ⟨gm, 0, none⟩) nx nx, .int .i64 x] wz fun e w' => e = .returned (.int .i64 (ofF M x)) ∧ w' = wz) := Lib.hid (fun wz x hz hx0 hx1 => by
    have hvx : vOf x < nx := by have h9 := HNX.out; unfold vOf; omega
    have hgml : gm < w7.heap.size := Blk.lt HLR7.out.1
    exact litOf_any wz gm nx M x ((hz.cell (p := ⟨gm, vOf x, none⟩) (by show gm < bo; rw [← HBO.out]; exact hgml)).trans (HLR7.out.at_ hvx)) hx0 hvx hnx2 (HFM.out.get _))
  have HNIr : Hid (∀ wz, Below bo w7 wz → Run 1 encI wz AI (numsF s C.inputs 0)) := Lib.hid (fun wz hz => by
    obtain ⟨A', c', e, _, _, hrun⟩ := (own_rowe lenI (by rw [flat_ints]; have := HO7I.out; rw [← HLI.out] at this; exact this)).below (show Below w7.heap.size w7 wz by rw [HBO.out]; exact hz)
    injection e with e1 _ _
    subst e1
    exact hrun)
  have HNLr : Hid (∀ wz, Below bo w7 wz → Run 1 encI wz AL (numsF s (C.latches.map (·.1)) 0)) := Lib.hid (fun wz hz => by
    obtain ⟨A', c', e, _, _, hrun⟩ := (own_rowe lenI (by rw [flat_ints]; have := HO7L.out; rw [← HLL.out] at this; exact this)).below (show Below w7.heap.size w7 wz by rw [HBO.out]; exact hz)
    injection e with e1 _ _
    subst e1
    exact hrun)
  have HNAr : Hid (∀ wz, Below bo w7 wz → Run 1 encI wz AA (numsF s (C.ands.map (·.1)) 0)) := Lib.hid (fun wz hz => by
    obtain ⟨A', c', e, _, _, hrun⟩ := (own_rowe lenI (by rw [flat_ints]; have := HO7A.out; rw [← HLA.out] at this; exact this)).below (show Below w7.heap.size w7 wz by rw [HBO.out]; exact hz)
    injection e with e1 _ _
    subst e1
    exact hrun)
  obtain ⟨i0, hi0, hz0, hz1, hz2⟩ := info_of2 infoIS
  have HI0 := Lib.hid (And.intro hi0 (And.intro hz0 (And.intro hz1 hz2)))
  obtain ⟨l0, hl0, hl1, hl2, hl3⟩ := info_of2 infoLatC
  have HL0 := Lib.hid (And.intro hl0 (And.intro hl1 (And.intro hl2 hl3)))
  obtain ⟨ga0, hg0, hg1, hg2, hg3⟩ := info_of2 infoGatC
  have HG0 := Lib.hid (And.intro hg0 (And.intro hg1 (And.intro hg2 hg3)))
  clear hi0 hz0 hz1 hz2 hl0 hl1 hl2 hl3 hg0 hg1 hg2 hg3 HALL HLR HO6I HO6L HO6A hbo hnc c0 c1 c2 c3 c4 c5 c6 c7 c8 c9 c10
  go_loopg [49] mI (fun j iv wx => ∃ (q : Nat) (v : Value), q ≤ mI ∧ j = mI - q ∧ iv = .int .i64 q ∧ CutS w7 wx bo ((mI : Int) + (mL : Int) + (mA : Int)) gr nc v (.slice none 0 0) (.slice none 0 0) (((cutI C s).take q).map (ofF M)) [] [])
  case atStart => exact ⟨0, _, Nat.zero_le _, rfl, rfl, HS0.out⟩
  case round =>
    clear HS0
    obtain ⟨q, vq, hq, hgk, rfl, hst⟩ := hrel
    subst hgk
    have HST := Lib.hid hst
    have HB := Lib.hid hst.below
    clear hst
    by_cases hlt : q < mI
    · obtain ⟨iz, hiz⟩ : ∃ iz, (numsF s C.inputs 0)[q]? = some iz := ⟨_, List.getElem?_eq_getElem (by rw [HLI.out]; exact hlt)⟩
      obtain ⟨b2, off2, e2, hb2, hcell2⟩ := (HNIr.out wr HB.out) q iz hiz
      subst e2
      have g0 := hcell2 0 _ rfl
      simp only [Nat.mul_one, Nat.add_zero] at g0
      obtain ⟨jx, z, ejx, hjx, hsel⟩ := selF_get (f := id) (xs := C.inputs) (by rw [List.map_id]; exact hiz)
      rw [Nat.zero_add] at ejx
      subst ejx
      obtain ⟨Ax, cx, ex, _, _, hrx⟩ := (HIN.out w7 HB7.out).i
      have x1 := (HCA.out wr HB.out).1
      simp only at ex
      rw [ex] at x1
      have HEX := Lib.hid ex
      clear ex
      obtain ⟨b, off, e, hb, hcell⟩ := hrx jx z hjx
      subst e
      have hbb : b < bo := by rw [← HBO.out]; exact hb
      have H0 : Hid (∀ wz, Below bo w7 wz → wz.cell? ⟨b, off + jx, none⟩ = some (.int .i64 z)) := Lib.hid (fun wz hz9 => by
        have h9 := (hz9.cell (p := ⟨b, off + (jx * 1 + 0), none⟩) hbb).trans (hcell 0 _ rfl)
        simpa only [Nat.add_zero, Nat.mul_one] using h9)
      have h0 := H0.out wr HB.out
      have hfz := HRT.out.i z (List.mem_of_getElem? hjx)
      have HF0 : Hid (0 ≤ z ∧ z / 2 ≤ C.max) := Lib.hid (by omega)
      have HJX := Lib.hid (List.getElem?_eq_some_iff.1 hjx).1
      have HTK : Hid ((cutI C s).take (q + 1) = (cutI C s).take q ++ [z]) := Lib.hid (take_more hsel)
      have HLQ : Hid (((cutI C s).take q).length = q) := Lib.hid (by rw [List.length_take, HmI.out]; omega)
      clear hcell hcell2 hiz hjx hsel hrx hfz
      generalize hnn : C.inputs.length = nn at *
      have hjn : jx < nn := HJX.out
      have hk0 : (0 : Int) ≤ (jx : Int) := by omega
      have hk1 : (jx : Int) < (nn : Int) := by omega
      have hk2 : (0 : Int) ≤ (q : Int) := by omega
      have hk3 : (q : Int) < (mI : Int) := by omega
      go_upto_region 7 with (fail)
      have HS1 := Lib.hid HST.out.drew
      have HSV : Hid (∀ w', Below bo w7 w' → w'.cell? ⟨bo, 1, none⟩ = some vq → w'.cell? ⟨bo, 1, none⟩ = some vq ∧ w'.cell? ⟨w.heap.size, 1, none⟩ = some (.slice (some ⟨b, off, none⟩) nn cx) ∧ w'.cell? ⟨b, off + jx, none⟩ = some (.int .i64 z)) := Lib.hid (fun w' hz9 hv9 => ⟨hv9, (by have h9 := (HCA.out w' hz9).1; rw [HEX.out] at h9; exact h9), H0.out w' hz9⟩)
      have hHeld := HSV.out _ HS1.out.below (HS1.out.box.cell 1)
      refine wp_region_T (by kernel_rfl) (fun w' => w'.cell? ⟨bo, 1, none⟩ = some vq ∧ w'.cell? ⟨w.heap.size, 1, none⟩ = some (.slice (some ⟨b, off, none⟩) nn cx) ∧ w'.cell? ⟨b, off + jx, none⟩ = some (.int .i64 z)) 12 ?_
      refine wpAnyT_take (i := 0) (v := ?v0r7q5) rfl (by kernel_rfl) (fun _ _ _ h => h) (by rfl) hHeld ?h0r7q5 ?_
      case h0r7q5 => (intro w' hSw; (try dsimp only at hSw); go_simp; try with_reducible rfl)
      (try simp only [Act.put, List.setIfInBounds_toArray])
      refine wpAnyT_take (i := 1) (v := ?v1r7q5) rfl (by kernel_rfl) (fun _ _ _ h => h) (by rfl) hHeld ?h1r7q5 ?_
      case h1r7q5 => (intro w' hSw; (try dsimp only at hSw); go_simp; try with_reducible rfl)
      (try simp only [Act.put])
      refine wpAnyT_take (i := 2) (v := ?v2r7q5) rfl (by kernel_rfl) (fun _ _ _ h => h) (by rfl) hHeld ?h2r7q5 ?_
      case h2r7q5 => (intro w' hSw; (try dsimp only at hSw); go_simp; try with_reducible rfl)
      (try simp only [Act.put])
      refine wpAnyT_take (i := 3) (v := ?v3r7q5) rfl (by kernel_rfl) (fun _ _ _ h => h) (by rfl) hHeld ?h3r7q5 ?_
      case h3r7q5 => (intro w' hSw; (try dsimp only at hSw); go_simp; try with_reducible rfl)
      (try simp only [Act.put])
      refine wpAnyT_take (i := 4) (v := ?v4r7q5) rfl (by kernel_rfl) (fun _ _ _ h => h) (by rfl) hHeld ?h4r7q5 ?_
      case h4r7q5 => (intro w' hSw; (try dsimp only at hSw); go_simp; try with_reducible rfl)
      (try simp only [Act.put])
      refine wpAnyT_take (i := 5) (v := ?v5r7q5) rfl (by kernel_rfl) (fun _ _ _ h => h) (by rfl) hHeld ?h5r7q5 ?_
      case h5r7q5 => (intro w' hSw; (try dsimp only at hSw); go_simp; try with_reducible rfl)
      (try simp only [Act.put])
      refine wpAnyT_take (i := 6) (v := ?v6r7q5) rfl (by kernel_rfl) (fun _ _ _ h => h) (by rfl) hHeld ?h6r7q5 ?_
      case h6r7q5 => (intro w' hSw; (try dsimp only at hSw); go_simp; try with_reducible rfl)
      (try simp only [Act.put])
      refine wpAnyT_take (i := 7) (v := ?v7r7q5) rfl (by kernel_rfl) (fun _ _ _ h => h) (by rfl) hHeld ?h7r7q5 ?_
      case h7r7q5 => (intro w' hSw; (try dsimp only at hSw); go_simp; try with_reducible rfl)
      (try simp only [Act.put])
      refine wpAnyT_one (i := 8) rfl (by kernel_rfl) (fun K hK => ?_)
      go_simp
      go_at_call 52
      refine (HOF.out _ z HS1.out.below HF0.out.1 HF0.out.2).mono ?_
      rintro e w9 ⟨rfl, hw9⟩
      rw [hw9]
      clear hw9 w9
      refine hK.out _ _ (fun _ => hHeld) ?_
      clear hK K
      (try simp only [Act.put, zA, zB, zC])
      clear hHeld
      refine wpAnyT_one (i := 9) rfl (by kernel_rfl) (fun K hK => ?_)
      go_simp
      have HS2 := Lib.hid (HS1.out.alloc (.cells #[.int .i64 (ofF M z)] 3))
      refine hK.out _ _ (fun _ => HSV.out _ HS2.out.below (HS2.out.box.cell 1)) ?_
      clear hK K
      (try simp only [Act.put, zA, zB, zC])
      have hoq := HS2.out.i
      have hlq : (((cutI C s).take q).map (ofF M)).length = q := by rw [List.length_map, HLQ.out]
      rw [hlq] at hoq
      obtain ⟨Aq, cq, rfl⟩ := own_slice1 hoq
      have HOQ := Lib.hid hoq
      clear hoq hlq
      refine wpAnyT_one (i := 10) rfl (by kernel_rfl) (fun K hK => ?_)
      refine step_append_any _ rfl (.tmp 54) (.tmp 62) _ rfl (bo + 1) 3 i0 _ 1 8 Try.underlying22 HI0.out.1 HI0.out.2.1 HI0.out.2.2.1 HI0.out.2.2.2 rfl (by omega) (.slice Aq q cq) q ((((cutI C s).take q).map (ofF M)).map (Value.int .i64)) (by first | rfl | (simp [Act.eval])) HOQ.out _ _ 1 1 [.int .i64 (ofF M z)] (by first | rfl | (simp [Act.eval]; done) | (simp [Act.eval]; rfl)) (reads_one _ _ _) (by simp [Value.oneCell']) (by simp only [maxLen]; omega) (by omega) (by exact HS2.out.box.lt) ?_
      intro v5 w5 hown5 hg5 hat5
      obtain ⟨B5, k5, rfl⟩ := own_slice1 hown5
      have HO5w := Lib.hid hown5
      have HG5w := Lib.hid hg5
      have hvb : ∀ k, (Value.slice Aq q cq).ownBlock = some k → bo + 1 ≤ k := fun k hk => (HOQ.out.lt k hk).1
      have HB5w : Hid (Below bo w7 w5) := Lib.hid (HS2.out.below.trans (grown_below hg5 (by have h9 := HS2.out.box.lt; omega) (fun k hk => by have := hvb k hk; omega)))
      have HX5 := Lib.hid (HS2.out.box.grown hg5 (fun e => by have := hvb bo e.symm; omega))
      refine hK.out _ _ (fun _ => HSV.out _ HB5w.out (HX5.out.cell 1)) ?_
      clear hK K hown5 hg5 hat5
      (try simp only [Act.put, List.setIfInBounds_toArray])
      have hx5l := HX5.out.lt
      have hx5c := HX5.out.cell 1
      simp only [List.getElem?_toArray, List.getElem?_cons_zero, List.getElem?_cons_succ] at hx5c
      have hx5f := Blk.frozen HX5.out 1
      refine wpAnyT_one (i := 11) rfl (by kernel_rfl) (fun K hK => ?_)
      go_simp
      refine hK.out _ _ (fun _ => HSV.out _ HB5w.out (HX5.out.cell 1)) ?_
      clear hK K
      (try simp only [Act.put, zA, zB, zC])
      refine wpAnyT_one (i := 12) rfl (by kernel_rfl) (fun K hK => ?_)
      go_simp
      refine hK.out _ _ (fun h => absurd h (by decide)) ?_
      clear hK K
      (try simp only [Act.put, zA, zB, zC])
      clear hx5l hx5c hx5f
      refine wpAnyT_done (by kernel_rfl) ?_
      go_wp2
      go_roundg (mI - (q + 1))
      case measure => omega
      case rel =>
        have h9 := HS2.out.addI (x := ofF M z) (by rw [List.length_map, HLQ.out]; exact HO5w.out) HG5w.out
        refine ⟨q + 1, .slice B5 (q + 1) k5, by omega, rfl, by go_num, ?_⟩
        rw [HTK.out, List.map_append]
        exact h9
    · have hqe : mI = q := by omega
      subst hqe
      obtain ⟨vI, hvI⟩ : ∃ v, vq = v := ⟨_, rfl⟩
      rw [hvI] at HST
      have HS0 := Lib.hid HST.out
      rw [List.take_of_length_le (by rw [HmI.out]; exact Nat.le_refl _)] at HS0
      clear HST HB hlt hq
      have hbl := HS0.out.box.lt
      go_wp2
      go_loopg [68] mL (fun j iv wx => ∃ (q : Nat) (v : Value), q ≤ mL ∧ j = mL - q ∧ iv = .int .i64 q ∧ CutS w7 wx bo ((mI : Int) + (mL : Int) + (mA : Int)) gr nc vI v (.slice none 0 0) ((cutI C s).map (ofF M)) (((cutL C s).take q).map (of3 M)) [])
      case atStart => exact ⟨0, _, Nat.zero_le _, rfl, rfl, by simpa using HS0.out⟩
      case round =>
        clear HS0
        obtain ⟨q, vq, hq, hgk, rfl, hst⟩ := hrel
        subst hgk
        have HST := Lib.hid hst
        have HB := Lib.hid hst.below
        clear hst
        by_cases hlt : q < mL
        · obtain ⟨iz, hiz⟩ : ∃ iz, (numsF s (C.latches.map (·.1)) 0)[q]? = some iz := ⟨_, List.getElem?_eq_getElem (by rw [HLL.out]; exact hlt)⟩
          obtain ⟨b2, off2, e2, hb2, hcell2⟩ := (HNLr.out wr HB.out) q iz hiz
          subst e2
          have g0 := hcell2 0 _ rfl
          simp only [Nat.mul_one, Nat.add_zero] at g0
          obtain ⟨jx, z, ejx, hjx, hsel⟩ := selF_get (f := (·.1)) (xs := C.latches) (by exact hiz)
          rw [Nat.zero_add] at ejx
          subst ejx
          obtain ⟨Ax, cx, ex, _, _, hrx⟩ := (HIN.out w7 HB7.out).l
          have x2 := (HCA.out wr HB.out).2.1
          simp only at ex
          rw [ex] at x2
          have HEX := Lib.hid ex
          clear ex
          obtain ⟨b, off, e, hb, hcell⟩ := hrx jx z hjx
          subst e
          have hbb : b < bo := by rw [← HBO.out]; exact hb
          obtain ⟨z0, z1, z2⟩ := z
          have h0 := (HB.out.cell (p := ⟨b, off + (jx * 3 + 0), none⟩) hbb).trans (hcell 0 _ rfl)
          have h1 := (HB.out.cell (p := ⟨b, off + (jx * 3 + 1), none⟩) hbb).trans (hcell 1 _ rfl)
          have h2 := (HB.out.cell (p := ⟨b, off + (jx * 3 + 2), none⟩) hbb).trans (hcell 2 _ rfl)
          simp only [Nat.add_zero, ← Nat.add_assoc] at h0 h1 h2
          have hfz := HRT.out.l (z0, z1, z2) (List.mem_of_getElem? hjx)
          have HF0 : Hid ((0 ≤ z0 ∧ z0 / 2 ≤ C.max) ∧ (0 ≤ z1 ∧ z1 / 2 ≤ C.max) ∧ (0 ≤ z2 ∧ z2 / 2 ≤ C.max)) := Lib.hid (by
            obtain ⟨⟨k1, k2⟩, ⟨k3, k4⟩, k5⟩ := hfz
            have k6 := HRT.out.m0
            simp only at k1 k2 k3 k4 k5
            refine ⟨⟨by omega, k2⟩, ⟨k3, k4⟩, ?_⟩
            rcases k5 with k5 | k5 | k5 <;> omega)
          have HJX := Lib.hid (List.getElem?_eq_some_iff.1 hjx).1
          have HTK : Hid ((cutL C s).take (q + 1) = (cutL C s).take q ++ [(z0, z1, z2)]) := Lib.hid (take_more hsel)
          have HLQ : Hid (((cutL C s).take q).length = q) := Lib.hid (by rw [List.length_take, HmL.out]; omega)
          clear hcell hcell2 hiz hjx hsel hrx hfz
          generalize hnn : C.latches.length = nn at *
          have hjn : jx < nn := HJX.out
          have hk0 : (0 : Int) ≤ (jx : Int) := by omega
          have hk1 : (jx : Int) < (nn : Int) := by omega
          have hk2 : (0 : Int) ≤ (q : Int) := by omega
          have hk3 : (q : Int) < (mL : Int) := by omega
          go_upto_region 13 with (fail)
          have HS1 := Lib.hid (HST.out.alloc (.cells #[.int .i64 z0, .int .i64 z1, .int .i64 z2] 64)).drew
          have HZ1 : Hid (Blk (wr.alloc (.cells #[.int .i64 z0, .int .i64 z1, .int .i64 z2] 64)).drew wr.heap.size 64 #[.int .i64 z0, .int .i64 z1, .int .i64 z2]) := Lib.hid (Blk.new wr 64 #[.int .i64 z0, .int .i64 z1, .int .i64 z2])
          have hHeld : (fun w' : World => w'.cell? ⟨bo, 2, none⟩ = some vq ∧ w'.cell? ⟨wr.heap.size, 0, none⟩ = some (.int .i64 z0) ∧ w'.cell? ⟨wr.heap.size, 1, none⟩ = some (.int .i64 z1) ∧ w'.cell? ⟨wr.heap.size, 2, none⟩ = some (.int .i64 z2)) (wr.alloc (.cells #[.int .i64 z0, .int .i64 z1, .int .i64 z2] 64)).drew := ⟨HS1.out.box.cell 2, HZ1.out.cell 0, HZ1.out.cell 1, HZ1.out.cell 2⟩
          refine wp_region_T (by kernel_rfl) (fun w' => w'.cell? ⟨bo, 2, none⟩ = some vq ∧ w'.cell? ⟨wr.heap.size, 0, none⟩ = some (.int .i64 z0) ∧ w'.cell? ⟨wr.heap.size, 1, none⟩ = some (.int .i64 z1) ∧ w'.cell? ⟨wr.heap.size, 2, none⟩ = some (.int .i64 z2)) 18 ?_
          refine wpAnyT_take (i := 0) (v := ?v0r13q6) rfl (by kernel_rfl) (fun _ _ _ h => h) (by rfl) hHeld ?h0r13q6 ?_
          case h0r13q6 => (intro w' hSw; (try dsimp only at hSw); go_simp; try with_reducible rfl)
          (try simp only [Act.put, List.setIfInBounds_toArray])
          refine wpAnyT_take (i := 1) (v := ?v1r13q6) rfl (by kernel_rfl) (fun _ _ _ h => h) (by rfl) hHeld ?h1r13q6 ?_
          case h1r13q6 => (intro w' hSw; (try dsimp only at hSw); go_simp; try with_reducible rfl)
          (try simp only [Act.put])
          refine wpAnyT_take (i := 2) (v := ?v2r13q6) rfl (by kernel_rfl) (fun _ _ _ h => h) (by rfl) hHeld ?h2r13q6 ?_
          case h2r13q6 => (intro w' hSw; (try dsimp only at hSw); go_simp; try with_reducible rfl)
          (try simp only [Act.put])
          refine wpAnyT_take (i := 3) (v := ?v3r13q6) rfl (by kernel_rfl) (fun _ _ _ h => h) (by rfl) hHeld ?h3r13q6 ?_
          case h3r13q6 => (intro w' hSw; (try dsimp only at hSw); go_simp; try with_reducible rfl)
          (try simp only [Act.put])
          refine wpAnyT_take (i := 4) (v := ?v4r13q6) rfl (by kernel_rfl) (fun _ _ _ h => h) (by rfl) hHeld ?h4r13q6 ?_
          case h4r13q6 => (intro w' hSw; (try dsimp only at hSw); go_simp; try with_reducible rfl)
          (try simp only [Act.put])
          refine wpAnyT_take (i := 6) (v := ?v6r13q7) rfl (by kernel_rfl) (fun _ _ _ h => h) (by rfl) hHeld ?h6r13q7 ?_
          case h6r13q7 => (intro w' hSw; (try dsimp only at hSw); go_simp; try with_reducible rfl)
          (try simp only [Act.put])
          refine wpAnyT_take (i := 7) (v := ?v7r13q7) rfl (by kernel_rfl) (fun _ _ _ h => h) (by rfl) hHeld ?h7r13q7 ?_
          case h7r13q7 => (intro w' hSw; (try dsimp only at hSw); go_simp; try with_reducible rfl)
          (try simp only [Act.put])
          refine wpAnyT_take (i := 8) (v := ?v8r13q7) rfl (by kernel_rfl) (fun _ _ _ h => h) (by rfl) hHeld ?h8r13q7 ?_
          case h8r13q7 => (intro w' hSw; (try dsimp only at hSw); go_simp; try with_reducible rfl)
          (try simp only [Act.put])
          refine wpAnyT_take (i := 10) (v := ?v10r13q8) rfl (by kernel_rfl) (fun _ _ _ h => h) (by rfl) hHeld ?h10r13q8 ?_
          case h10r13q8 => (intro w' hSw; (try dsimp only at hSw); go_simp; try with_reducible rfl)
          (try simp only [Act.put])
          refine wpAnyT_take (i := 11) (v := ?v11r13q8) rfl (by kernel_rfl) (fun _ _ _ h => h) (by rfl) hHeld ?h11r13q8 ?_
          case h11r13q8 => (intro w' hSw; (try dsimp only at hSw); go_simp; try with_reducible rfl)
          (try simp only [Act.put])
          refine wpAnyT_take (i := 12) (v := ?v12r13q8) rfl (by kernel_rfl) (fun _ _ _ h => h) (by rfl) hHeld ?h12r13q8 ?_
          case h12r13q8 => (intro w' hSw; (try dsimp only at hSw); go_simp; try with_reducible rfl)
          (try simp only [Act.put])
          refine wpAnyT_one (i := 5) rfl (by kernel_rfl) (fun K hK => ?_)
          go_simp
          go_at_call 52
          refine (HOF.out _ z0 HS1.out.below HF0.out.1.1 HF0.out.1.2).mono ?_
          rintro e w9 ⟨rfl, hw9⟩
          rw [hw9]
          clear hw9 w9
          refine hK.out _ _ (fun _ => hHeld) ?_
          clear hK K
          (try simp only [Act.put, zA, zB, zC])
          refine wpAnyT_one (i := 9) rfl (by kernel_rfl) (fun K hK => ?_)
          go_simp
          go_at_call 52
          refine (HOF.out _ z1 HS1.out.below HF0.out.2.1.1 HF0.out.2.1.2).mono ?_
          rintro e w9 ⟨rfl, hw9⟩
          rw [hw9]
          clear hw9 w9
          refine hK.out _ _ (fun _ => hHeld) ?_
          clear hK K
          (try simp only [Act.put, zA, zB, zC])
          refine wpAnyT_one (i := 13) rfl (by kernel_rfl) (fun K hK => ?_)
          go_simp
          go_at_call 52
          refine (HOF.out _ z2 HS1.out.below HF0.out.2.2.1 HF0.out.2.2.2).mono ?_
          rintro e w9 ⟨rfl, hw9⟩
          rw [hw9]
          clear hw9 w9
          refine hK.out _ _ (fun _ => hHeld) ?_
          clear hK K
          (try simp only [Act.put, zA, zB, zC])
          have hbld := build_lat (ofF M z0) (ofF M z1) (ofF M z2)
          refine wpAnyT_take (i := 14) (v := ?v14r13q9) rfl (by kernel_rfl) (fun _ _ _ h => h) (by rfl) hHeld ?h14r13q9 ?_
          case h14r13q9 => (intro w' hSw; (try dsimp only at hSw); go_simp; try with_reducible rfl)
          (try simp only [Act.put, List.setIfInBounds_toArray])
          clear hbld
          clear hHeld
          refine wpAnyT_one (i := 15) rfl (by kernel_rfl) (fun K hK => ?_)
          go_simp
          have HS2 := Lib.hid (HS1.out.alloc (.cells #[.int .i64 (ofF M z0), .int .i64 (ofF M z1), .int .i64 (ofF M z2)] 64))
          have HZ2 := Lib.hid (HZ1.out.alloc (.cells #[.int .i64 (ofF M z0), .int .i64 (ofF M z1), .int .i64 (ofF M z2)] 64))
          refine hK.out _ _ (fun _ => ⟨HS2.out.box.cell 2, HZ2.out.cell 0, HZ2.out.cell 1, HZ2.out.cell 2⟩) ?_
          clear hK K
          (try simp only [Act.put, zA, zB, zC])
          have hoq := HS2.out.l
          have hlq : (((cutL C s).take q).map (of3 M)).length = q := by rw [List.length_map, HLQ.out]
          rw [hlq] at hoq
          obtain ⟨Aq, cq, rfl⟩ := own_slice1 hoq
          have HOQ := Lib.hid hoq
          clear hoq hlq
          refine wpAnyT_one (i := 16) rfl (by kernel_rfl) (fun K hK => ?_)
          refine step_append_any _ rfl (.tmp 78) (.tmp 92) _ rfl (bo + 1) 64 l0 _ 3 24 Try.underlying23 HL0.out.1 HL0.out.2.1 HL0.out.2.2.1 HL0.out.2.2.2 rfl (by omega) (.slice Aq q cq) q ((((cutL C s).take q).map (of3 M)).flatMap encT) (by first | rfl | (simp [Act.eval])) HOQ.out _ _ 1 1 [.int .i64 (ofF M z0), .int .i64 (ofF M z1), .int .i64 (ofF M z2)] (by first | rfl | (simp [Act.eval]; done) | (simp [Act.eval]; rfl)) (reads_triC _ _ _ _ _) (by simp [Value.oneCell']) (by simp only [maxLen]; omega) (by omega) (by exact HS2.out.box.lt) ?_
          intro v5 w5 hown5 hg5 hat5
          obtain ⟨B5, k5, rfl⟩ := own_slice1 hown5
          have HO5w := Lib.hid hown5
          have HG5w := Lib.hid hg5
          have hvb : ∀ k, (Value.slice Aq q cq).ownBlock = some k → bo + 1 ≤ k := fun k hk => (HOQ.out.lt k hk).1
          have HB5w : Hid (Below bo w7 w5) := Lib.hid (HS2.out.below.trans (grown_below hg5 (by have h9 := HS2.out.box.lt; omega) (fun k hk => by have := hvb k hk; omega)))
          have HX5 := Lib.hid (HS2.out.box.grown hg5 (fun e => by have := hvb bo e.symm; omega))
          have HZ5 : Hid (Blk w5 wr.heap.size 64 #[.int .i64 z0, .int .i64 z1, .int .i64 z2]) := Lib.hid (HZ2.out.grown hg5 (fun e => by have := (HST.out.l.lt _ e.symm).2; omega))
          refine hK.out _ _ (fun _ => ⟨HX5.out.cell 2, HZ5.out.cell 0, HZ5.out.cell 1, HZ5.out.cell 2⟩) ?_
          clear hK K hown5 hg5 hat5
          (try simp only [Act.put, List.setIfInBounds_toArray])
          have hx5l := HX5.out.lt
          have hx5c := HX5.out.cell 2
          simp only [List.getElem?_toArray, List.getElem?_cons_zero, List.getElem?_cons_succ] at hx5c
          have hx5f := Blk.frozen HX5.out 2
          refine wpAnyT_one (i := 17) rfl (by kernel_rfl) (fun K hK => ?_)
          go_simp
          refine hK.out _ _ (fun _ => ⟨HX5.out.cell 2, HZ5.out.cell 0, HZ5.out.cell 1, HZ5.out.cell 2⟩) ?_
          clear hK K
          (try simp only [Act.put, zA, zB, zC])
          refine wpAnyT_one (i := 18) rfl (by kernel_rfl) (fun K hK => ?_)
          go_simp
          refine hK.out _ _ (fun h => absurd h (by decide)) ?_
          clear hK K
          (try simp only [Act.put, zA, zB, zC])
          clear hx5l hx5c hx5f
          refine wpAnyT_done (by kernel_rfl) ?_
          go_wp2
          go_roundg (mL - (q + 1))
          case measure => omega
          case rel =>
            have h9 := HS2.out.addL (x := (ofF M z0, ofF M z1, ofF M z2)) (by rw [List.length_map, HLQ.out]; exact HO5w.out) HG5w.out
            refine ⟨q + 1, .slice B5 (q + 1) k5, by omega, rfl, by go_num, ?_⟩
            rw [HTK.out, List.map_append]
            exact h9
        · have hqe : mL = q := by omega
          subst hqe
          obtain ⟨vL, hvL⟩ : ∃ v, vq = v := ⟨_, rfl⟩
          rw [hvL] at HST
          have HS0 := Lib.hid HST.out
          rw [List.take_of_length_le (by rw [HmL.out]; exact Nat.le_refl _)] at HS0
          clear HST HB hlt hq
          have hbl := HS0.out.box.lt
          go_wp2
          go_loopg [98] mA (fun j iv wx => ∃ (q : Nat) (v : Value), q ≤ mA ∧ j = mA - q ∧ iv = .int .i64 q ∧ CutS w7 wx bo ((mI : Int) + (mL : Int) + (mA : Int)) gr nc vI vL v ((cutI C s).map (ofF M)) ((cutL C s).map (of3 M)) (((cutA C s).take q).map (of3 M)))
          case atStart => exact ⟨0, _, Nat.zero_le _, rfl, rfl, by simpa using HS0.out⟩
          case round =>
            clear HS0
            obtain ⟨q, vq, hq, hgk, rfl, hst⟩ := hrel
            subst hgk
            have HST := Lib.hid hst
            have HB := Lib.hid hst.below
            clear hst
            by_cases hlt : q < mA
            · obtain ⟨iz, hiz⟩ : ∃ iz, (numsF s (C.ands.map (·.1)) 0)[q]? = some iz := ⟨_, List.getElem?_eq_getElem (by rw [HLA.out]; exact hlt)⟩
              obtain ⟨b2, off2, e2, hb2, hcell2⟩ := (HNAr.out wr HB.out) q iz hiz
              subst e2
              have g0 := hcell2 0 _ rfl
              simp only [Nat.mul_one, Nat.add_zero] at g0
              obtain ⟨jx, z, ejx, hjx, hsel⟩ := selF_get (f := (·.1)) (xs := C.ands) (by exact hiz)
              rw [Nat.zero_add] at ejx
              subst ejx
              obtain ⟨Ax, cx, ex, _, _, hrx⟩ := (HIN.out w7 HB7.out).a
              have x8 := (HCA.out wr HB.out).2.2.1
              simp only at ex
              rw [ex] at x8
              have HEX := Lib.hid ex
              clear ex
              obtain ⟨b, off, e, hb, hcell⟩ := hrx jx z hjx
              subst e
              have hbb : b < bo := by rw [← HBO.out]; exact hb
              obtain ⟨z0, z1, z2⟩ := z
              have h0 := (HB.out.cell (p := ⟨b, off + (jx * 3 + 0), none⟩) hbb).trans (hcell 0 _ rfl)
              have h1 := (HB.out.cell (p := ⟨b, off + (jx * 3 + 1), none⟩) hbb).trans (hcell 1 _ rfl)
              have h2 := (HB.out.cell (p := ⟨b, off + (jx * 3 + 2), none⟩) hbb).trans (hcell 2 _ rfl)
              simp only [Nat.add_zero, ← Nat.add_assoc] at h0 h1 h2
              have hfz := HRT.out.a (z0, z1, z2) (List.mem_of_getElem? hjx)
              have HF0 : Hid ((0 ≤ z0 ∧ z0 / 2 ≤ C.max) ∧ (0 ≤ z1 ∧ z1 / 2 ≤ C.max) ∧ (0 ≤ z2 ∧ z2 / 2 ≤ C.max)) := Lib.hid (by
                obtain ⟨⟨k1, k2⟩, ⟨k3, k4⟩, ⟨k5, k6⟩⟩ := hfz
                simp only at k1 k2 k3 k4 k5 k6
                exact ⟨⟨by omega, k2⟩, ⟨k3, k4⟩, ⟨k5, k6⟩⟩)
              have HJX := Lib.hid (List.getElem?_eq_some_iff.1 hjx).1
              have HTK : Hid ((cutA C s).take (q + 1) = (cutA C s).take q ++ [(z0, z1, z2)]) := Lib.hid (take_more hsel)
              have HLQ : Hid (((cutA C s).take q).length = q) := Lib.hid (by rw [List.length_take, HmA.out]; omega)
              clear hcell hcell2 hiz hjx hsel hrx hfz
              generalize hnn : C.ands.length = nn at *
              have hjn : jx < nn := HJX.out
              have hk0 : (0 : Int) ≤ (jx : Int) := by omega
              have hk1 : (jx : Int) < (nn : Int) := by omega
              have hk2 : (0 : Int) ≤ (q : Int) := by omega
              have hk3 : (q : Int) < (mA : Int) := by omega
              go_upto_region 19 with (fail)
              have HS1 := Lib.hid (HST.out.alloc (.cells #[.int .i64 z0, .int .i64 z1, .int .i64 z2] 66)).drew
              have HZ1 : Hid (Blk (wr.alloc (.cells #[.int .i64 z0, .int .i64 z1, .int .i64 z2] 66)).drew wr.heap.size 66 #[.int .i64 z0, .int .i64 z1, .int .i64 z2]) := Lib.hid (Blk.new wr 66 #[.int .i64 z0, .int .i64 z1, .int .i64 z2])
              have hHeld : (fun w' : World => w'.cell? ⟨bo, 8, none⟩ = some vq ∧ w'.cell? ⟨wr.heap.size, 0, none⟩ = some (.int .i64 z0) ∧ w'.cell? ⟨wr.heap.size, 1, none⟩ = some (.int .i64 z1) ∧ w'.cell? ⟨wr.heap.size, 2, none⟩ = some (.int .i64 z2)) (wr.alloc (.cells #[.int .i64 z0, .int .i64 z1, .int .i64 z2] 66)).drew := ⟨HS1.out.box.cell 8, HZ1.out.cell 0, HZ1.out.cell 1, HZ1.out.cell 2⟩
              refine wp_region_T (by kernel_rfl) (fun w' => w'.cell? ⟨bo, 8, none⟩ = some vq ∧ w'.cell? ⟨wr.heap.size, 0, none⟩ = some (.int .i64 z0) ∧ w'.cell? ⟨wr.heap.size, 1, none⟩ = some (.int .i64 z1) ∧ w'.cell? ⟨wr.heap.size, 2, none⟩ = some (.int .i64 z2)) 18 ?_
              refine wpAnyT_take (i := 0) (v := ?v0r19q10) rfl (by kernel_rfl) (fun _ _ _ h => h) (by rfl) hHeld ?h0r19q10 ?_
              case h0r19q10 => (intro w' hSw; (try dsimp only at hSw); go_simp; try with_reducible rfl)
              (try simp only [Act.put, List.setIfInBounds_toArray])
              refine wpAnyT_take (i := 1) (v := ?v1r19q10) rfl (by kernel_rfl) (fun _ _ _ h => h) (by rfl) hHeld ?h1r19q10 ?_
              case h1r19q10 => (intro w' hSw; (try dsimp only at hSw); go_simp; try with_reducible rfl)
              (try simp only [Act.put])
              refine wpAnyT_take (i := 2) (v := ?v2r19q10) rfl (by kernel_rfl) (fun _ _ _ h => h) (by rfl) hHeld ?h2r19q10 ?_
              case h2r19q10 => (intro w' hSw; (try dsimp only at hSw); go_simp; try with_reducible rfl)
              (try simp only [Act.put])
              refine wpAnyT_take (i := 3) (v := ?v3r19q10) rfl (by kernel_rfl) (fun _ _ _ h => h) (by rfl) hHeld ?h3r19q10 ?_
              case h3r19q10 => (intro w' hSw; (try dsimp only at hSw); go_simp; try with_reducible rfl)
              (try simp only [Act.put])
              refine wpAnyT_take (i := 4) (v := ?v4r19q10) rfl (by kernel_rfl) (fun _ _ _ h => h) (by rfl) hHeld ?h4r19q10 ?_
              case h4r19q10 => (intro w' hSw; (try dsimp only at hSw); go_simp; try with_reducible rfl)
              (try simp only [Act.put])
              refine wpAnyT_take (i := 6) (v := ?v6r19q11) rfl (by kernel_rfl) (fun _ _ _ h => h) (by rfl) hHeld ?h6r19q11 ?_
              case h6r19q11 => (intro w' hSw; (try dsimp only at hSw); go_simp; try with_reducible rfl)
              (try simp only [Act.put])
              refine wpAnyT_take (i := 7) (v := ?v7r19q11) rfl (by kernel_rfl) (fun _ _ _ h => h) (by rfl) hHeld ?h7r19q11 ?_
              case h7r19q11 => (intro w' hSw; (try dsimp only at hSw); go_simp; try with_reducible rfl)
              (try simp only [Act.put])
              refine wpAnyT_take (i := 8) (v := ?v8r19q11) rfl (by kernel_rfl) (fun _ _ _ h => h) (by rfl) hHeld ?h8r19q11 ?_
              case h8r19q11 => (intro w' hSw; (try dsimp only at hSw); go_simp; try with_reducible rfl)
              (try simp only [Act.put])
              refine wpAnyT_take (i := 10) (v := ?v10r19q12) rfl (by kernel_rfl) (fun _ _ _ h => h) (by rfl) hHeld ?h10r19q12 ?_
              case h10r19q12 => (intro w' hSw; (try dsimp only at hSw); go_simp; try with_reducible rfl)
              (try simp only [Act.put])
              refine wpAnyT_take (i := 11) (v := ?v11r19q12) rfl (by kernel_rfl) (fun _ _ _ h => h) (by rfl) hHeld ?h11r19q12 ?_
              case h11r19q12 => (intro w' hSw; (try dsimp only at hSw); go_simp; try with_reducible rfl)
              (try simp only [Act.put])
              refine wpAnyT_take (i := 12) (v := ?v12r19q12) rfl (by kernel_rfl) (fun _ _ _ h => h) (by rfl) hHeld ?h12r19q12 ?_
              case h12r19q12 => (intro w' hSw; (try dsimp only at hSw); go_simp; try with_reducible rfl)
              (try simp only [Act.put])
              refine wpAnyT_one (i := 5) rfl (by kernel_rfl) (fun K hK => ?_)
              go_simp
              go_at_call 52
              refine (HOF.out _ z0 HS1.out.below HF0.out.1.1 HF0.out.1.2).mono ?_
              rintro e w9 ⟨rfl, hw9⟩
              rw [hw9]
              clear hw9 w9
              refine hK.out _ _ (fun _ => hHeld) ?_
              clear hK K
              (try simp only [Act.put, zA, zB, zC])
              refine wpAnyT_one (i := 9) rfl (by kernel_rfl) (fun K hK => ?_)
              go_simp
              go_at_call 52
              refine (HOF.out _ z1 HS1.out.below HF0.out.2.1.1 HF0.out.2.1.2).mono ?_
              rintro e w9 ⟨rfl, hw9⟩
              rw [hw9]
              clear hw9 w9
              refine hK.out _ _ (fun _ => hHeld) ?_
              clear hK K
              (try simp only [Act.put, zA, zB, zC])
              refine wpAnyT_one (i := 13) rfl (by kernel_rfl) (fun K hK => ?_)
              go_simp
              go_at_call 52
              refine (HOF.out _ z2 HS1.out.below HF0.out.2.2.1 HF0.out.2.2.2).mono ?_
              rintro e w9 ⟨rfl, hw9⟩
              rw [hw9]
              clear hw9 w9
              refine hK.out _ _ (fun _ => hHeld) ?_
              clear hK K
              (try simp only [Act.put, zA, zB, zC])
              have hbld := build_gat (ofF M z0) (ofF M z1) (ofF M z2)
              refine wpAnyT_take (i := 14) (v := ?v14r19q13) rfl (by kernel_rfl) (fun _ _ _ h => h) (by rfl) hHeld ?h14r19q13 ?_
              case h14r19q13 => (intro w' hSw; (try dsimp only at hSw); go_simp; try with_reducible rfl)
              (try simp only [Act.put, List.setIfInBounds_toArray])
              clear hbld
              clear hHeld
              refine wpAnyT_one (i := 15) rfl (by kernel_rfl) (fun K hK => ?_)
              go_simp
              have HS2 := Lib.hid (HS1.out.alloc (.cells #[.int .i64 (ofF M z0), .int .i64 (ofF M z1), .int .i64 (ofF M z2)] 66))
              have HZ2 := Lib.hid (HZ1.out.alloc (.cells #[.int .i64 (ofF M z0), .int .i64 (ofF M z1), .int .i64 (ofF M z2)] 66))
              refine hK.out _ _ (fun _ => ⟨HS2.out.box.cell 8, HZ2.out.cell 0, HZ2.out.cell 1, HZ2.out.cell 2⟩) ?_
              clear hK K
              (try simp only [Act.put, zA, zB, zC])
              have hoq := HS2.out.a
              have hlq : (((cutA C s).take q).map (of3 M)).length = q := by rw [List.length_map, HLQ.out]
              rw [hlq] at hoq
              obtain ⟨Aq, cq, rfl⟩ := own_slice1 hoq
              have HOQ := Lib.hid hoq
              clear hoq hlq
              refine wpAnyT_one (i := 16) rfl (by kernel_rfl) (fun K hK => ?_)
              refine step_append_any _ rfl (.tmp 108) (.tmp 122) _ rfl (bo + 1) 66 ga0 _ 3 24 Try.underlying25 HG0.out.1 HG0.out.2.1 HG0.out.2.2.1 HG0.out.2.2.2 rfl (by omega) (.slice Aq q cq) q ((((cutA C s).take q).map (of3 M)).flatMap encT) (by first | rfl | (simp [Act.eval])) HOQ.out _ _ 1 1 [.int .i64 (ofF M z0), .int .i64 (ofF M z1), .int .i64 (ofF M z2)] (by first | rfl | (simp [Act.eval]; done) | (simp [Act.eval]; rfl)) (reads_triC _ _ _ _ _) (by simp [Value.oneCell']) (by simp only [maxLen]; omega) (by omega) (by exact HS2.out.box.lt) ?_
              intro v5 w5 hown5 hg5 hat5
              obtain ⟨B5, k5, rfl⟩ := own_slice1 hown5
              have HO5w := Lib.hid hown5
              have HG5w := Lib.hid hg5
              have hvb : ∀ k, (Value.slice Aq q cq).ownBlock = some k → bo + 1 ≤ k := fun k hk => (HOQ.out.lt k hk).1
              have HB5w : Hid (Below bo w7 w5) := Lib.hid (HS2.out.below.trans (grown_below hg5 (by have h9 := HS2.out.box.lt; omega) (fun k hk => by have := hvb k hk; omega)))
              have HX5 := Lib.hid (HS2.out.box.grown hg5 (fun e => by have := hvb bo e.symm; omega))
              have HZ5 : Hid (Blk w5 wr.heap.size 66 #[.int .i64 z0, .int .i64 z1, .int .i64 z2]) := Lib.hid (HZ2.out.grown hg5 (fun e => by have := (HST.out.a.lt _ e.symm).2; omega))
              refine hK.out _ _ (fun _ => ⟨HX5.out.cell 8, HZ5.out.cell 0, HZ5.out.cell 1, HZ5.out.cell 2⟩) ?_
              clear hK K hown5 hg5 hat5
              (try simp only [Act.put, List.setIfInBounds_toArray])
              have hx5l := HX5.out.lt
              have hx5c := HX5.out.cell 8
              simp only [List.getElem?_toArray, List.getElem?_cons_zero, List.getElem?_cons_succ] at hx5c
              have hx5f := Blk.frozen HX5.out 8
              refine wpAnyT_one (i := 17) rfl (by kernel_rfl) (fun K hK => ?_)
              go_simp
              refine hK.out _ _ (fun _ => ⟨HX5.out.cell 8, HZ5.out.cell 0, HZ5.out.cell 1, HZ5.out.cell 2⟩) ?_
              clear hK K
              (try simp only [Act.put, zA, zB, zC])
              refine wpAnyT_one (i := 18) rfl (by kernel_rfl) (fun K hK => ?_)
              go_simp
              refine hK.out _ _ (fun h => absurd h (by decide)) ?_
              clear hK K
              (try simp only [Act.put, zA, zB, zC])
              clear hx5l hx5c hx5f
              refine wpAnyT_done (by kernel_rfl) ?_
              go_wp2
              go_roundg (mA - (q + 1))
              case measure => omega
              case rel =>
                have h9 := HS2.out.addA (x := (ofF M z0, ofF M z1, ofF M z2)) (by rw [List.length_map, HLQ.out]; exact HO5w.out) HG5w.out
                refine ⟨q + 1, .slice B5 (q + 1) k5, by omega, rfl, by go_num, ?_⟩
                rw [HTK.out, List.map_append]
                exact h9
            · have hqe : mA = q := by omega
              subst hqe
              obtain ⟨vA, hvA⟩ : ∃ v, vq = v := ⟨_, rfl⟩
              rw [hvA] at HST
              have HS0 := Lib.hid HST.out
              rw [List.take_of_length_le (by rw [HmA.out]; exact Nat.le_refl _)] at HS0
              clear HST HB hlt hq
              have hbl := HS0.out.box.lt
              have HB := Lib.hid HS0.out.below
              have HBW : Hid (Below W2.heap.size W2 wr) := Lib.hid (HCW.out wr HB.out)
              have hp0 := (HP2.out.below HBW.out HP2.out.lt).cell 0
              have hp1 := (HP2.out.below HBW.out HP2.out.lt).cell 1
              simp only [List.getElem?_toArray, List.getElem?_cons_zero, List.getElem?_cons_succ] at hp0 hp1
              obtain ⟨Ab, cb, eb, _, _, hrb⟩ := (HIN.out w7 HB7.out).b
              have x4 := (HCA.out wr HB.out).2.2.2
              simp only at eb
              rw [eb] at x4
              obtain ⟨y, hy⟩ : ∃ y, C.bads[a]? = some y := ⟨_, List.getElem?_eq_getElem ha⟩
              obtain ⟨b, off, e, hb, hcell⟩ := hrb a y hy
              subst e
              have hbb : b < bo := by rw [← HBO.out]; exact hb
              have h0 := (HB.out.cell (p := ⟨b, off + (a * 1 + 0), none⟩) hbb).trans (hcell 0 _ rfl)
              simp only [Nat.add_zero, Nat.mul_one] at h0
              have hyz := HRT.out.b y (List.mem_of_getElem? hy)
              have HY : Hid (C.bads.getD a 0 = y) := Lib.hid (by rw [List.getD_eq_getElem?_getD, hy]; rfl)
              have HAB := Lib.hid ha
              have HYZ := Lib.hid hyz
              clear hcell hrb hy hyz eb ha
              generalize hnb : C.bads.length = nb at *
              have hab : a < nb := HAB.out
              have hk0 : (0 : Int) ≤ (a : Int) := by omega
              have hk1 : (a : Int) < (nb : Int) := by omega
              clear hnb
              have hbx4 := HS0.out.box.cell 4
              simp only [List.getElem?_toArray, List.getElem?_cons_zero, List.getElem?_cons_succ] at hbx4
              have hbf4 := Blk.frozen HS0.out.box 4
              have HSA := Lib.hid (HS0.out.alloc (.cells #[.int .i64 (ofF M y)] 3))
              have hbx4a := HSA.out.box.cell 4
              simp only [List.getElem?_toArray, List.getElem?_cons_zero, List.getElem?_cons_succ] at hbx4a
              have hbf4a := Blk.frozen HSA.out.box 4
              have hbla := HSA.out.box.lt
              go_upto_region 24 with (go_at_call 52; refine (HOF.out _ y HB.out HYZ.out.1 HYZ.out.2).mono ?_; rintro e w9 ⟨rfl, hw9⟩; rw [hw9]; clear hw9 w9)
              obtain ⟨BI, dI, rfl⟩ := own_slice1 HS0.out.i
              obtain ⟨BL, dL, rfl⟩ := own_slice1 HS0.out.l
              obtain ⟨BA, dA, rfl⟩ := own_slice1 HS0.out.a
              obtain ⟨W9, hW9⟩ : ∃ W9, (wr.setCell ⟨bo, 4, none⟩ (.slice (some ⟨wr.heap.size, 0, none⟩) 1 1)).alloc (.cells #[.int .i64 (ofF M y)] 3) = W9 := ⟨_, rfl⟩
              obtain ⟨CX, hCX⟩ : ∃ CX : Array Value, CX = #[.int .i64 ((mI : Int) + (mL : Int) + (mA : Int)), .slice BI ((cutI C s).map (ofF M)).length dI, .slice BL ((cutL C s).map (of3 M)).length dL, .slice none 0 0, .slice (some ⟨wr.heap.size, 0, none⟩) 1 1, .slice (some ⟨gr, 0, none⟩) nc nc, .slice none 0 0, .slice none 0 0, .slice BA ((cutA C s).map (of3 M)).length dA, .slice none 0 0, .slice none 0 0] := ⟨_, rfl⟩
              have hszw : (wr.setCell ⟨bo, 4, none⟩ (.slice (some ⟨wr.heap.size, 0, none⟩) 1 1)).heap.size = wr.heap.size := by simp [World.setCell]
              have HX9 : Hid (Blk W9 bo 29 CX) := Lib.hid (by
                rw [← hW9, hCX]
                have h9 := HS0.out.box.set_ 4 (.slice (some ⟨wr.heap.size, 0, none⟩) 1 1)
                exact Blk.alloc (by simpa using h9) _)
              have HB9 : Hid (Below bo w7 W9) := Lib.hid (by
                rw [← hW9]
                have h8 : Below bo w7 (wr.setCell ⟨bo, 4, none⟩ (.slice (some ⟨wr.heap.size, 0, none⟩) 1 1)) := HS0.out.below.setCell (Nat.le_refl _) _
                exact h8.alloc (by rw [hszw]; omega) _)
              have hkeep : ∀ {t : TypeId} {k n : Nat} {v : Value} {xs : List Value}, wr.ownsRow (bo + 1) t k v n xs → W9.ownsRow (bo + 1) t k v n xs := fun hh => by
                rw [← hW9]
                exact (own_setQ hh _ _ (fun g9 hg9 => by have := (hh.lt g9 hg9).1; show g9 ≠ bo; omega)).alloc _
              have HI9 := Lib.hid (hkeep HS0.out.i)
              have HL9 := Lib.hid (hkeep HS0.out.l)
              have HA9 := Lib.hid (hkeep HS0.out.a)
              have HY9 : Hid (W9.ownsRow (bo + 1) 3 1 (.slice (some ⟨wr.heap.size, 0, none⟩) 1 1) 1 [.int .i64 (ofF M y)]) := Lib.hid (by
                have h9 := Blk.new (wr.setCell ⟨bo, 4, none⟩ (.slice (some ⟨wr.heap.size, 0, none⟩) 1 1)) 3 #[.int .i64 (ofF M y)]
                rw [hW9, hszw] at h9
                exact ⟨rfl, .inr ⟨wr.heap.size, 1, _, rfl, by omega, h9, Nat.le_refl _, by simp [maxLen], rfl, rfl⟩⟩)
              have HQ9 := Lib.hid (HQ2.out.below (HCW.out W9 HB9.out) HQ2.out.lt)
              have HRS : Hid (W9.heap[w.heap.size + 1 + 1]? = some (.cells #[.int .i64 0, .slice none 0 0, .slice none 0 0, .slice none 0 0, .slice none 0 0, .slice none 0 0, .slice none 0 0, .slice none 0 0, .slice none 0 0, .slice none 0 0, .slice none 0 0, .slice none 0 0, .slice none 0 0, .slice none 0 0] 34 (0, 0))) := Lib.hid HQ9.out
              have HXH : Hid (W9.heap[bo]? = some (.cells CX 29 (0, 0))) := Lib.hid HX9.out
              rw [hW9]
              clear hbx4 hbf4 hbx4a hbf4a hbla HSA x4 h0 hp0 hp1 hW9 hszw hkeep hbl
              obtain ⟨CY, hCY⟩ : ∃ CY : Array Value, CY = #[.int .i64 ((mI : Int) + (mL : Int) + (mA : Int)), .slice BI ((cutI C s).map (ofF M)).length dI, .slice BL ((cutL C s).map (of3 M)).length dL, .slice none 0 0, .slice (some ⟨wr.heap.size, 0, none⟩) 1 1, .slice (some ⟨gr, 0, none⟩) nc nc, .slice none 0 0, .slice none 0 0, .slice BA ((cutA C s).map (of3 M)).length dA, .slice none 0 0, .slice none 0 0, .slice (some ⟨gm, 0, none⟩) nx nx, .slice AI mI cI, .slice AL mL cL] := ⟨_, rfl⟩
              have hbldC : ∀ wx : World, (Instr.build 34 #[(0, .agg CX), (1, .slice (some ⟨gm, 0, none⟩) nx nx), (2, .slice AI mI cI), (3, .slice AL mL cL)]).run Try.prog wx = .ok (.agg CY) wx := fun wx => by
                rw [hCX, hCY]
                exact build_cut _ _ _ _ _ _ _ _ _ _ _ _ _ _ _ _ _ _ _ _ _ _ _ _ _ _ _ _ _ _ _ _ _ _ _ _ _ _ _ _ wx
              have HON : Hid (CY.all (·.oneCell') = true) := Lib.hid (by rw [hCY]; simp [Value.oneCell'])
              have HSI : Hid ((Try.prog.info? 34).map (·.size) = some CY.size) := Lib.hid (by rw [hCY]; kernel_rfl)
              have HSO : Hid ((#[.int .i64 0, .slice none 0 0, .slice none 0 0, .slice none 0 0, .slice none 0 0, .slice none 0 0, .slice none 0 0, .slice none 0 0, .slice none 0 0, .slice none 0 0, .slice none 0 0, .slice none 0 0, .slice none 0 0, .slice none 0 0] : Array Value).size = CY.size) := Lib.hid (by rw [hCY]; rfl)
              have HIX : Hid ((Try.prog.info? 29).map (·.size) = some CX.size) := Lib.hid (by rw [hCX]; kernel_rfl)
              have hw10 : Blk (W9.setRow (w.heap.size + 1 + 1) CY) (w.heap.size + 1 + 1) 34 CY := setRow_heap W9 (w.heap.size + 1 + 1) _ CY _ _ HRS.out
              have H10 := Lib.hid hw10
              have HCY := Lib.hid hCY
              clear hCX hCY hw10
              go_wp2_with (first
                | (refine wpList_load_row rfl 29 (.tmp 11) rfl bo rfl 29 CX (0, 0) _ HXH.out Try.underlying29 rfl HIX.out ?_)
                | (refine wpList_buildC rfl 34 #[(0, .tmp 154), (1, .tmp 155), (2, .tmp 156), (3, .tmp 157)] rfl #[(0, .agg CX), (1, .slice (some ⟨gm, 0, none⟩) nx nx), (2, .slice AI mI cI), (3, .slice AL mL cL)] rfl (.agg CY) (hbldC _) ?_)
                | (refine wpList_store_row rfl 34 (.tmp 6) (.tmp 158) rfl (w.heap.size + 1 + 1) CY rfl rfl 34 _ HRS.out HSI.out HSO.out HON.out ?_))
              refine bodyPost_ret (results_cell_row (fn := Try.f27) rfl _ _ (w.heap.size + 1 + 1) 34 CY (0, 0) _ rfl H10.out Try.underlying34 rfl HSI.out) rfl ?_
              have hne : ∀ {B : Nat} {t : TypeId} {k n : Nat} {v : Value} {xs : List Value}, W9.ownsRow B t k v n xs → t ≠ 34 → (W9.setRow (w.heap.size + 1 + 1) CY).ownsRow B t k v n xs := fun ho ht =>
                own_of_block ho fun g9 hg9 => setRow_other _ _ _ _ (fun e => own_blk_ne ho HQ9.out ht (by rw [hg9, e]))
              have hbf : Below w.heap.size w (W9.setRow (w.heap.size + 1 + 1) CY) := (bt HB2.out (Nat.le_refl _) (HCW.out W9 HB9.out)).trans ⟨rfl, rfl, rfl, by rw [size_setRow]; exact Nat.le_refl _, fun k hk => setRow_other _ _ _ _ (by omega)⟩
              have hb79 : Below w7.heap.size w7 W9 := by rw [HBO.out]; exact HB9.out
              have hmx : (cutX C s a).max = (mI : Int) + (mL : Int) + (mA : Int) := by
                show (((cutI C s).length + (cutL C s).length + (cutA C s).length : Nat) : Int) = _
                rw [HmI.out, HmL.out, HmA.out]
                push_cast
                try rfl
              have hnums : ∀ {gg : Nat} {Ls : List Int}, Nums W9 gg Ls → Nums (W9.setRow (w.heap.size + 1 + 1) CY) gg Ls := fun hh => (setRow_other _ _ _ _ (fun e => by
                have h9 := hh.ne_ HQ9.out (by decide)
                exact h9 e)).trans hh
              have hMM : litM C s = M := HMM.out
              have hw2 : w.heap.size ≤ W2.heap.size := HB2.out.size
              have hw6 : W2.heap.size ≤ w6.heap.size := HB6.out.size
              refine ⟨⟨.slice BI ((cutI C s).map (ofF M)).length dI, .slice BL ((cutL C s).map (of3 M)).length dL, .slice none 0 0, .slice (some ⟨wr.heap.size, 0, none⟩) 1 1, .slice (some ⟨gr, 0, none⟩) nc nc, .slice none 0 0, .slice none 0 0, .slice BA ((cutA C s).map (of3 M)).length dA, .slice none 0 0, .slice none 0 0⟩, .slice (some ⟨gm, 0, none⟩) nx nx, .slice AI mI cI, .slice AL mL cL, ?_, hbf, ?_⟩
              · rw [HCY.out, hmx]
              · refine ⟨?_, ?_, ?_, ?_, ?_, rfl, rfl, rfl, rfl, rfl, ⟨gm, by rw [HNX.out], by have := hgm; have := HB5.out.size; omega, ?_⟩, ?_, ?_⟩
                · show World.ownsRow _ _ _ _ _ ((cutI C s).map (ofF (litM C s))).length (((cutI C s).map (ofF (litM C s))).map (Value.int .i64))
                  rw [hMM]
                  exact hne (own_le HI9.out (by omega)) (by decide)
                · show World.ownsRow _ _ _ _ _ ((cutL C s).map (of3 (litM C s))).length (((cutL C s).map (of3 (litM C s))).flatMap encT)
                  rw [hMM]
                  exact hne (own_le HL9.out (by omega)) (by decide)
                · show World.ownsRow _ _ _ _ _ 1 [.int .i64 (ofF (litM C s) (C.bads.getD a 0))]
                  rw [hMM, HY.out]
                  exact hne (own_le HY9.out (by omega)) (by decide)
                · show World.ownsRow _ _ _ _ _ (C.constraints.map (ofF (litM C s))).length ((C.constraints.map (ofF (litM C s))).map (Value.int .i64))
                  rw [hMM]
                  have h9 := nums_own (B := w.heap.size) (hnums (Blk.below HCN.out hb79 (Blk.lt HCN.out))) (by omega) (by rw [List.length_map]; have := HRT.out.nc; simp [maxLen]; omega)
                  have e9 : (C.constraints.map (ofF M)).length = nc := by rw [List.length_map]; exact HNC.out
                  rw [e9] at h9 ⊢
                  exact h9
                · show World.ownsRow _ _ _ _ _ ((cutA C s).map (of3 (litM C s))).length (((cutA C s).map (of3 (litM C s))).flatMap encT)
                  rw [hMM]
                  exact hne (own_le HA9.out (by omega)) (by decide)
                · rw [hMM]
                  exact hnums (Blk.below HLR7.out.1 hb79 (Blk.lt HLR7.out.1))
                · have h9 := hne (own_below HO7I.out hb79) (by decide)
                  rw [← HLI.out] at h9 ⊢
                  exact own_le h9 hw2
                · have h9 := hne (own_below HO7L.out hb79) (by decide)
                  rw [← HLL.out] at h9 ⊢
                  exact own_le h9 (Nat.le_trans hw2 hw3)
end Go.Proofs.Ytagffmalmkcboaa

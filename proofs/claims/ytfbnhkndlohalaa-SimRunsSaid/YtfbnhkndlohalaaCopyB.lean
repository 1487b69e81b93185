/- The contract of the statements' own CopyCircuit: a circuit of new lists. -/
import Derived.Test.YtfbnhkndlohalaaAppF
namespace Go.Proofs.Ytfbnhkndlohalaa
open Go.RowKit

theorem cst_val {a : Value} {v : Value} {w : World} (h : v = a) : cst a v w := h
/-- New lists of a circuit's members, the justice's own lists among them. -/
structure CopB (w : World) (B : Nat) (C : Circ) (us : List Value) (V : CV) : Prop where
  i : w.ownsRow B 3 1 V.i C.inputs.length (C.inputs.flatMap encI)
  l : w.ownsRow B 54 3 V.l C.latches.length (C.latches.flatMap encT)
  o : w.ownsRow B 3 1 V.o C.outputs.length (C.outputs.flatMap encI)
  b : w.ownsRow B 3 1 V.b C.bads.length (C.bads.flatMap encI)
  c : w.ownsRow B 3 1 V.c C.constraints.length (C.constraints.flatMap encI)
  j : JRow w B V.j us C.justice
  f : w.ownsRow B 3 1 V.f C.fairness.length (C.fairness.flatMap encI)
  a : w.ownsRow B 56 3 V.a C.ands.length (C.ands.flatMap encT)
  s : w.ownsRow B 107 3 V.s C.symbols.length (C.symbols.flatMap encS)
  t : w.ownsRow B 9 1 V.t C.comments.length (C.comments.flatMap encB)
theorem CopB.below {w w' : World} {B : Nat} {C : Circ} {us : List Value} {V : CV} (h : CopB w B C us V) (hb : Below w.heap.size w w') : CopB w' B C us V :=
  ⟨own_below h.i hb, own_below h.l hb, own_below h.o hb, own_below h.b hb, own_below h.c hb, h.j.below hb, own_below h.f hb, own_below h.a hb, own_below h.s hb, own_below h.t hb⟩
theorem CopB.in_ {w : World} {B : Nat} {C : Circ} {us : List Value} {V : CV} (h : CopB w B C us V) : C.In w V :=
  ⟨own_rowe lenI h.i, own_rowe lenT h.l, own_rowe lenI h.o, own_rowe lenI h.b, own_rowe lenI h.c, h.j.lists, own_rowe lenI h.f, own_rowe lenT h.a, own_rowe lenS h.s, own_rowe lenB h.t⟩
def bookVals (B bx : Nat) (V : CV) (C : Circ) : List (Value → World → Prop) := [
  cst (.pointer (some ⟨bx, 0, none⟩)),
  cst (.int .i64 C.max),
  cst (.pointer (some ⟨bx, 1, none⟩)),
  cst V.i,
  fun v w => w.ownsRow B 3 1 v C.inputs.length (C.inputs.flatMap encI),
  fun v w => ∃ g, v = .slice (some ⟨g, 0, none⟩) 0 0 ∧ B ≤ g ∧ Blk w g 54 #[],
  cst (.pointer (some ⟨bx, 2, none⟩)),
  cst V.l,
  fun v w => w.ownsRow B 54 3 v C.latches.length (C.latches.flatMap encT),
  cst (.pointer (some ⟨bx, 3, none⟩)),
  cst V.o,
  fun v w => w.ownsRow B 3 1 v C.outputs.length (C.outputs.flatMap encI),
  cst (.pointer (some ⟨bx, 4, none⟩)),
  cst V.b,
  fun v w => w.ownsRow B 3 1 v C.bads.length (C.bads.flatMap encI),
  cst (.pointer (some ⟨bx, 5, none⟩)),
  cst V.c,
  fun v w => w.ownsRow B 3 1 v C.constraints.length (C.constraints.flatMap encI),
  cst (.pointer (some ⟨bx, 6, none⟩)),
  cst V.j,
  fun v w => ∃ us, JRow w B v us C.justice,
  cst (.pointer (some ⟨bx, 7, none⟩)),
  cst V.f,
  fun v w => w.ownsRow B 3 1 v C.fairness.length (C.fairness.flatMap encI),
  fun v w => ∃ g, v = .slice (some ⟨g, 0, none⟩) 0 0 ∧ B ≤ g ∧ Blk w g 56 #[],
  cst (.pointer (some ⟨bx, 8, none⟩)),
  cst V.a,
  fun v w => w.ownsRow B 56 3 v C.ands.length (C.ands.flatMap encT),
  fun v w => ∃ g, v = .slice (some ⟨g, 0, none⟩) 0 0 ∧ B ≤ g ∧ Blk w g 107 #[],
  cst (.pointer (some ⟨bx, 9, none⟩)),
  cst V.s,
  fun v w => w.ownsRow B 107 3 v C.symbols.length (C.symbols.flatMap encS),
  fun v w => ∃ g, v = .slice (some ⟨g, 0, none⟩) 0 0 ∧ B ≤ g ∧ Blk w g 9 #[],
  cst (.pointer (some ⟨bx, 10, none⟩)),
  cst V.t,
  fun v w => w.ownsRow B 9 1 v C.comments.length (C.comments.flatMap encB),
  fun v w => ∃ (V' : CV) (us : List Value), v = V'.val C.max ∧ CopB w B C us V']
theorem book_keep {B bx : Nat} {V : CV} {C : Circ} : ∀ i v w1 w2, Below (World.heap w1).size w1 w2 → valL (bookVals B bx V C) i v w1 → valL (bookVals B bx V C) i v w2 := by
  refine valL_keep (G := fun w1 w2 => Below (World.heap w1).size w1 w2) _ (fun p hp => ?_)
  simp only [bookVals, List.mem_cons, List.not_mem_nil, or_false] at hp
  rcases hp with rfl | rfl | rfl | rfl | rfl | rfl | rfl | rfl | rfl | rfl | rfl | rfl | rfl | rfl | rfl | rfl | rfl | rfl | rfl | rfl | rfl | rfl | rfl | rfl | rfl | rfl | rfl | rfl | rfl | rfl | rfl | rfl | rfl | rfl | rfl | rfl | rfl
  · exact cst_stab _
  · exact cst_stab _
  · exact cst_stab _
  · exact cst_stab _
  · exact fun v w w' hb h => own_below h hb
  · rintro v w w' hb ⟨g, e, h1, h2⟩; exact ⟨g, e, h1, h2.below hb h2.lt⟩
  · exact cst_stab _
  · exact cst_stab _
  · exact fun v w w' hb h => own_below h hb
  · exact cst_stab _
  · exact cst_stab _
  · exact fun v w w' hb h => own_below h hb
  · exact cst_stab _
  · exact cst_stab _
  · exact fun v w w' hb h => own_below h hb
  · exact cst_stab _
  · exact cst_stab _
  · exact fun v w w' hb h => own_below h hb
  · exact cst_stab _
  · exact cst_stab _
  · rintro v w w' hb ⟨us, h⟩; exact ⟨us, h.below hb⟩
  · exact cst_stab _
  · exact cst_stab _
  · exact fun v w w' hb h => own_below h hb
  · rintro v w w' hb ⟨g, e, h1, h2⟩; exact ⟨g, e, h1, h2.below hb h2.lt⟩
  · exact cst_stab _
  · exact cst_stab _
  · exact fun v w w' hb h => own_below h hb
  · rintro v w w' hb ⟨g, e, h1, h2⟩; exact ⟨g, e, h1, h2.below hb h2.lt⟩
  · exact cst_stab _
  · exact cst_stab _
  · exact fun v w w' hb h => own_below h hb
  · rintro v w w' hb ⟨g, e, h1, h2⟩; exact ⟨g, e, h1, h2.below hb h2.lt⟩
  · exact cst_stab _
  · exact cst_stab _
  · exact fun v w w' hb h => own_below h hb
  · rintro v w w' hb ⟨V', us, e, h⟩; exact ⟨V', us, e, h.below hb⟩
theorem new_L (w : World) : (Instr.buildSlice 23 0 #[]).run Try.prog w = .ok (.slice (some ⟨w.heap.size, 0, none⟩) 0 0) (w.alloc (.cells #[] 54)) := by kernel_rfl
theorem new_A (w : World) : (Instr.buildSlice 25 0 #[]).run Try.prog w = .ok (.slice (some ⟨w.heap.size, 0, none⟩) 0 0) (w.alloc (.cells #[] 56)) := by kernel_rfl
theorem new_S (w : World) : (Instr.buildSlice 26 0 #[]).run Try.prog w = .ok (.slice (some ⟨w.heap.size, 0, none⟩) 0 0) (w.alloc (.cells #[] 107)) := by kernel_rfl
theorem new_B (w : World) : (Instr.buildSlice 27 0 #[]).run Try.prog w = .ok (.slice (some ⟨w.heap.size, 0, none⟩) 0 0) (w.alloc (.cells #[] 9)) := by kernel_rfl
set_option maxHeartbeats 4000000 in
set_option maxRecDepth 100000 in
theorem CopyCircuit_any (w : World) (V : CV) (C : Circ) (h : C.In w V) (hr : C.Room) :
    Calls Try.prog 16 #[V.val C.max] w fun e w' => ∃ V' us, e = .returned (CV.val V' C.max) ∧ Below w.heap.size w w' ∧ CopB w' w.heap.size C us V' := by
  have HR := Lib.hid hr
  have H := Lib.hid h
  clear h hr
  go_enter Try.func16, Try.ntmps16
  go_wp2
  refine region_lit ?_
  intro ops hops
  have HBA : (webB ops && acyB ops && (ops.size == 37 + 1) && Region.sinkB .any ops 37 && (List.range (37 + 1)).all fun j => !Region.waitsFor .any ops j 37) = true := by rw [hops]; kernel_rfl
  have HB : webB ops = true := by rw [hops]; kernel_rfl
  have HND : ∀ j, j < ops.size → dstOf ops j ≠ some 1 := noDst_spec (by rw [hops]; kernel_rfl)
  obtain ⟨w0, hw0⟩ : ∃ w0 : World, w0 = { (w.alloc (.cells (V.cells C.max) 29)).alloc (.cells #[.int .i64 0, .slice none 0 0, .slice none 0 0, .slice none 0 0, .slice none 0 0, .slice none 0 0, .slice none 0 0, .slice none 0 0, .slice none 0 0, .slice none 0 0, .slice none 0 0] 29) with drawn := ((w.alloc (.cells (V.cells C.max) 29)).alloc (.cells #[.int .i64 0, .slice none 0 0, .slice none 0 0, .slice none 0 0, .slice none 0 0, .slice none 0 0, .slice none 0 0, .slice none 0 0, .slice none 0 0, .slice none 0 0, .slice none 0 0] 29)).drawn + 1 } := ⟨_, rfl⟩
  have hb0 : Below w.heap.size w w0 := by
    rw [hw0]
    exact (((Below.refl _ w).alloc (Nat.le_refl _) _).alloc (by simp) _).drew
  have hx0 : Blk w0 w.heap.size 29 (V.cells C.max) := by
    rw [hw0]
    exact ((Blk.new w _ _).alloc _).drew
  have hs0 : w0.heap.size = w.heap.size + 1 + 1 := by rw [hw0]; simp
  have HIN : ∀ wz, Below w0.heap.size w0 wz → C.In wz V := fun wz hb => (H.out.below hb0).below hb
  have HCELL : ∀ wz, Below w0.heap.size w0 wz → ∀ k, wz.cell? ⟨w.heap.size, k, none⟩ = (V.cells C.max)[k]? := fun wz hb k => (hx0.below hb hx0.lt).cell k
  have HSZ : ∀ wz, Below w0.heap.size w0 wz → w.heap.size ≤ wz.heap.size := fun wz hb => by have := hb.size; omega
  obtain ⟨iL, hiL, hL0, hL1, hL2⟩ := info_of2 infoL2
  obtain ⟨iA, hiA, hA0, hA1, hA2⟩ := info_of2 infoA2
  obtain ⟨iS, hiS, hS0, hS1, hS2⟩ := info_of2 infoS2
  obtain ⟨iB, hiB, hB0, hB1, hB2⟩ := info_of2 infoB2
  refine wp_region_web_tail (by kernel_rfl) 37 HBA (fun w1 w2 => Below w1.heap.size w1 w2) (valL (bookVals w.heap.size w.heap.size V C)) (fun _ _ _ => True) (fun _ _ _ _ => True) (fun _ _ _ _ _ _ _ _ => ⟨trivial, trivial⟩) (fun a => Below.refl _ _) (fun a b c h1 h2 => bt h1 (Nat.le_refl _) h2) book_keep ?_ ?_
  · intro i o hi ho
    rw [← hw0]
    rw [hops] at ho
    match i, hi, ho with
    | 0, _, ho =>
      simp only [List.getElem?_toArray, List.getElem?_cons_zero, Option.some.injEq] at ho; subst ho
      refine webStep_of HB rfl (fun f aC wz hw hd ha hv hsp K hK => ?_)
      have e1 : aC.eval (.tmp 1) = .pointer (some ⟨w.heap.size, 0, none⟩) := (ha 1 HND).trans rfl
      refine wp_val (v := .pointer (some ⟨w.heap.size, 0, none⟩)) (w' := wz) ?_ (hK _ _ (Below.refl _ _) rfl trivial)
      show ((do pure (Next.value (← Instr.fieldAt 29 (aC.eval (.tmp 1)) 0)) : Sem Next)).run Try.prog wz = _
      rw [e1]
      exact run_value (field_0 _ _)
    | 1, _, ho =>
      simp only [List.getElem?_toArray, List.getElem?_cons_zero, List.getElem?_cons_succ, Option.some.injEq] at ho; subst ho
      refine webStep_of HB rfl (fun f aC wz hw hd ha hv hsp K hK => ?_)
      have e1 : aC.eval (.tmp 3) = .pointer (some ⟨w.heap.size, 0, none⟩) := (hd 0 3 (by rw [hops]; kernel_rfl : Region.waitsFor .any ops 1 0 = true) (by rw [hops]; kernel_rfl : dstOf ops 0 = some 3) (by simp)).trans (hv 0 (by rw [hops]; kernel_rfl : Region.waitsFor .any ops 1 0 = true))
      refine wp_val (v := .int .i64 C.max) (w' := wz) ?_ (hK _ _ (Below.refl _ _) rfl trivial)
      show ((do pure (Next.value (← Instr.loadAt 3 (aC.eval (.tmp 3)))) : Sem Next)).run Try.prog wz = _
      rw [e1]
      exact run_value (load_at _ load_N (HCELL wz hw 0))
    | 2, _, ho =>
      simp only [List.getElem?_toArray, List.getElem?_cons_zero, List.getElem?_cons_succ, Option.some.injEq] at ho; subst ho
      refine webStep_of HB rfl (fun f aC wz hw hd ha hv hsp K hK => ?_)
      have e1 : aC.eval (.tmp 1) = .pointer (some ⟨w.heap.size, 0, none⟩) := (ha 1 HND).trans rfl
      refine wp_val (v := .pointer (some ⟨w.heap.size, 1, none⟩)) (w' := wz) ?_ (hK _ _ (Below.refl _ _) rfl trivial)
      show ((do pure (Next.value (← Instr.fieldAt 29 (aC.eval (.tmp 1)) 1)) : Sem Next)).run Try.prog wz = _
      rw [e1]
      exact run_value (field_1 _ _)
    | 3, _, ho =>
      simp only [List.getElem?_toArray, List.getElem?_cons_zero, List.getElem?_cons_succ, Option.some.injEq] at ho; subst ho
      refine webStep_of HB rfl (fun f aC wz hw hd ha hv hsp K hK => ?_)
      have e1 : aC.eval (.tmp 5) = .pointer (some ⟨w.heap.size, 1, none⟩) := (hd 2 5 (by rw [hops]; kernel_rfl : Region.waitsFor .any ops 3 2 = true) (by rw [hops]; kernel_rfl : dstOf ops 2 = some 5) (by simp)).trans (hv 2 (by rw [hops]; kernel_rfl : Region.waitsFor .any ops 3 2 = true))
      refine wp_val (v := V.i) (w' := wz) ?_ (hK _ _ (Below.refl _ _) rfl trivial)
      show ((do pure (Next.value (← Instr.loadAt 22 (aC.eval (.tmp 5)))) : Sem Next)).run Try.prog wz = _
      rw [e1]
      exact run_value (load_at _ load_I (HCELL wz hw 1))
    | 4, _, ho =>
      simp only [List.getElem?_toArray, List.getElem?_cons_zero, List.getElem?_cons_succ, Option.some.injEq] at ho; subst ho
      refine webStep_of HB rfl (fun f aC wz hw hd ha hv hsp K hK => ?_)
      have e1 : aC.eval (.tmp 6) = V.i := (hd 3 6 (by rw [hops]; kernel_rfl : Region.waitsFor .any ops 4 3 = true) (by rw [hops]; kernel_rfl : dstOf ops 3 = some 6) (by simp)).trans (hv 3 (by rw [hops]; kernel_rfl : Region.waitsFor .any ops 4 3 = true))
      refine wp_enter (f := 30) (args := #[V.i]) ?_ ((CopyInts_any wz V.i C.inputs (HIN wz hw).i HR.out.i).mono ?_)
      · simp [execOp, resolve, e1]; rfl
      · rintro e w' ⟨v', rfl, hown, hbel⟩
        exact ⟨v', rfl, hK v' w' hbel (own_base hown (HSZ wz hw)) trivial⟩
    | 5, _, ho =>
      simp only [List.getElem?_toArray, List.getElem?_cons_zero, List.getElem?_cons_succ, Option.some.injEq] at ho; subst ho
      refine webStep_of HB rfl (fun f aC wz hw hd ha hv hsp K hK => ?_)
      refine wp_val (v := .slice (some ⟨wz.heap.size, 0, none⟩) 0 0) (w' := wz.alloc (.cells #[] 54)) ?_ (hK _ _ ((Below.refl _ _).alloc (Nat.le_refl _) _) ⟨_, rfl, HSZ wz hw, Blk.new _ _ _⟩ trivial)
      simp only [execOp, List.map_toArray, List.map_nil]
      exact run_value (new_L wz)
    | 6, _, ho =>
      simp only [List.getElem?_toArray, List.getElem?_cons_zero, List.getElem?_cons_succ, Option.some.injEq] at ho; subst ho
      refine webStep_of HB rfl (fun f aC wz hw hd ha hv hsp K hK => ?_)
      have e1 : aC.eval (.tmp 1) = .pointer (some ⟨w.heap.size, 0, none⟩) := (ha 1 HND).trans rfl
      refine wp_val (v := .pointer (some ⟨w.heap.size, 2, none⟩)) (w' := wz) ?_ (hK _ _ (Below.refl _ _) rfl trivial)
      show ((do pure (Next.value (← Instr.fieldAt 29 (aC.eval (.tmp 1)) 2)) : Sem Next)).run Try.prog wz = _
      rw [e1]
      exact run_value (field_2 _ _)
    | 7, _, ho =>
      simp only [List.getElem?_toArray, List.getElem?_cons_zero, List.getElem?_cons_succ, Option.some.injEq] at ho; subst ho
      refine webStep_of HB rfl (fun f aC wz hw hd ha hv hsp K hK => ?_)
      have e1 : aC.eval (.tmp 9) = .pointer (some ⟨w.heap.size, 2, none⟩) := (hd 6 9 (by rw [hops]; kernel_rfl : Region.waitsFor .any ops 7 6 = true) (by rw [hops]; kernel_rfl : dstOf ops 6 = some 9) (by simp)).trans (hv 6 (by rw [hops]; kernel_rfl : Region.waitsFor .any ops 7 6 = true))
      refine wp_val (v := V.l) (w' := wz) ?_ (hK _ _ (Below.refl _ _) rfl trivial)
      show ((do pure (Next.value (← Instr.loadAt 23 (aC.eval (.tmp 9)))) : Sem Next)).run Try.prog wz = _
      rw [e1]
      exact run_value (load_at _ load_L (HCELL wz hw 2))
    | 8, _, ho =>
      simp only [List.getElem?_toArray, List.getElem?_cons_zero, List.getElem?_cons_succ, Option.some.injEq] at ho; subst ho
      refine webStep_of HB rfl (fun f aC wz hw hd ha hv hsp K hK => ?_)
      have e1 := hd 5 8 (by rw [hops]; kernel_rfl : Region.waitsFor .any ops 8 5 = true) (by rw [hops]; kernel_rfl : dstOf ops 5 = some 8) (by simp)
      have e2 : aC.eval (.tmp 10) = V.l := (hd 7 10 (by rw [hops]; kernel_rfl : Region.waitsFor .any ops 8 7 = true) (by rw [hops]; kernel_rfl : dstOf ops 7 = some 10) (by simp)).trans (hv 7 (by rw [hops]; kernel_rfl : Region.waitsFor .any ops 8 7 = true))
      obtain ⟨g, eg, hgB, hgb⟩ : ∃ g, f 5 = .slice (some ⟨g, 0, none⟩) 0 0 ∧ w.heap.size ≤ g ∧ Blk wz g 54 #[] := hv 5 (by rw [hops]; kernel_rfl : Region.waitsFor .any ops 8 5 = true)
      obtain ⟨A, c, eA, hrd⟩ := (HIN wz hw).l.reads lenT (by omega)
      refine wp_append_fresh (.tmp 8) (.tmp 10) _ rfl w.heap.size 54 iL _ 3 24 Try.underlying23 hiL hL0 hL1 hL2 rfl (by omega) g (e1.trans eg) hgb hgB wz.heap.size A C.latches.length c (C.latches.flatMap encT) (e2.trans eA) hrd (flat_one oneT _) (by have := HR.out.l; simp only [maxLen]; omega) HR.out.l (HSZ wz hw) ?_
      exact fun v' w' hown hbel => hK v' w' hbel hown trivial
    | 9, _, ho =>
      simp only [List.getElem?_toArray, List.getElem?_cons_zero, List.getElem?_cons_succ, Option.some.injEq] at ho; subst ho
      refine webStep_of HB rfl (fun f aC wz hw hd ha hv hsp K hK => ?_)
      have e1 : aC.eval (.tmp 1) = .pointer (some ⟨w.heap.size, 0, none⟩) := (ha 1 HND).trans rfl
      refine wp_val (v := .pointer (some ⟨w.heap.size, 3, none⟩)) (w' := wz) ?_ (hK _ _ (Below.refl _ _) rfl trivial)
      show ((do pure (Next.value (← Instr.fieldAt 29 (aC.eval (.tmp 1)) 3)) : Sem Next)).run Try.prog wz = _
      rw [e1]
      exact run_value (field_3 _ _)
    | 10, _, ho =>
      simp only [List.getElem?_toArray, List.getElem?_cons_zero, List.getElem?_cons_succ, Option.some.injEq] at ho; subst ho
      refine webStep_of HB rfl (fun f aC wz hw hd ha hv hsp K hK => ?_)
      have e1 : aC.eval (.tmp 12) = .pointer (some ⟨w.heap.size, 3, none⟩) := (hd 9 12 (by rw [hops]; kernel_rfl : Region.waitsFor .any ops 10 9 = true) (by rw [hops]; kernel_rfl : dstOf ops 9 = some 12) (by simp)).trans (hv 9 (by rw [hops]; kernel_rfl : Region.waitsFor .any ops 10 9 = true))
      refine wp_val (v := V.o) (w' := wz) ?_ (hK _ _ (Below.refl _ _) rfl trivial)
      show ((do pure (Next.value (← Instr.loadAt 22 (aC.eval (.tmp 12)))) : Sem Next)).run Try.prog wz = _
      rw [e1]
      exact run_value (load_at _ load_I (HCELL wz hw 3))
    | 11, _, ho =>
      simp only [List.getElem?_toArray, List.getElem?_cons_zero, List.getElem?_cons_succ, Option.some.injEq] at ho; subst ho
      refine webStep_of HB rfl (fun f aC wz hw hd ha hv hsp K hK => ?_)
      have e1 : aC.eval (.tmp 13) = V.o := (hd 10 13 (by rw [hops]; kernel_rfl : Region.waitsFor .any ops 11 10 = true) (by rw [hops]; kernel_rfl : dstOf ops 10 = some 13) (by simp)).trans (hv 10 (by rw [hops]; kernel_rfl : Region.waitsFor .any ops 11 10 = true))
      refine wp_enter (f := 30) (args := #[V.o]) ?_ ((CopyInts_any wz V.o C.outputs (HIN wz hw).o HR.out.o).mono ?_)
      · simp [execOp, resolve, e1]; rfl
      · rintro e w' ⟨v', rfl, hown, hbel⟩
        exact ⟨v', rfl, hK v' w' hbel (own_base hown (HSZ wz hw)) trivial⟩
    | 12, _, ho =>
      simp only [List.getElem?_toArray, List.getElem?_cons_zero, List.getElem?_cons_succ, Option.some.injEq] at ho; subst ho
      refine webStep_of HB rfl (fun f aC wz hw hd ha hv hsp K hK => ?_)
      have e1 : aC.eval (.tmp 1) = .pointer (some ⟨w.heap.size, 0, none⟩) := (ha 1 HND).trans rfl
      refine wp_val (v := .pointer (some ⟨w.heap.size, 4, none⟩)) (w' := wz) ?_ (hK _ _ (Below.refl _ _) rfl trivial)
      show ((do pure (Next.value (← Instr.fieldAt 29 (aC.eval (.tmp 1)) 4)) : Sem Next)).run Try.prog wz = _
      rw [e1]
      exact run_value (field_4 _ _)
    | 13, _, ho =>
      simp only [List.getElem?_toArray, List.getElem?_cons_zero, List.getElem?_cons_succ, Option.some.injEq] at ho; subst ho
      refine webStep_of HB rfl (fun f aC wz hw hd ha hv hsp K hK => ?_)
      have e1 : aC.eval (.tmp 15) = .pointer (some ⟨w.heap.size, 4, none⟩) := (hd 12 15 (by rw [hops]; kernel_rfl : Region.waitsFor .any ops 13 12 = true) (by rw [hops]; kernel_rfl : dstOf ops 12 = some 15) (by simp)).trans (hv 12 (by rw [hops]; kernel_rfl : Region.waitsFor .any ops 13 12 = true))
      refine wp_val (v := V.b) (w' := wz) ?_ (hK _ _ (Below.refl _ _) rfl trivial)
      show ((do pure (Next.value (← Instr.loadAt 22 (aC.eval (.tmp 15)))) : Sem Next)).run Try.prog wz = _
      rw [e1]
      exact run_value (load_at _ load_I (HCELL wz hw 4))
    | 14, _, ho =>
      simp only [List.getElem?_toArray, List.getElem?_cons_zero, List.getElem?_cons_succ, Option.some.injEq] at ho; subst ho
      refine webStep_of HB rfl (fun f aC wz hw hd ha hv hsp K hK => ?_)
      have e1 : aC.eval (.tmp 16) = V.b := (hd 13 16 (by rw [hops]; kernel_rfl : Region.waitsFor .any ops 14 13 = true) (by rw [hops]; kernel_rfl : dstOf ops 13 = some 16) (by simp)).trans (hv 13 (by rw [hops]; kernel_rfl : Region.waitsFor .any ops 14 13 = true))
      refine wp_enter (f := 30) (args := #[V.b]) ?_ ((CopyInts_any wz V.b C.bads (HIN wz hw).b HR.out.b).mono ?_)
      · simp [execOp, resolve, e1]; rfl
      · rintro e w' ⟨v', rfl, hown, hbel⟩
        exact ⟨v', rfl, hK v' w' hbel (own_base hown (HSZ wz hw)) trivial⟩
    | 15, _, ho =>
      simp only [List.getElem?_toArray, List.getElem?_cons_zero, List.getElem?_cons_succ, Option.some.injEq] at ho; subst ho
      refine webStep_of HB rfl (fun f aC wz hw hd ha hv hsp K hK => ?_)
      have e1 : aC.eval (.tmp 1) = .pointer (some ⟨w.heap.size, 0, none⟩) := (ha 1 HND).trans rfl
      refine wp_val (v := .pointer (some ⟨w.heap.size, 5, none⟩)) (w' := wz) ?_ (hK _ _ (Below.refl _ _) rfl trivial)
      show ((do pure (Next.value (← Instr.fieldAt 29 (aC.eval (.tmp 1)) 5)) : Sem Next)).run Try.prog wz = _
      rw [e1]
      exact run_value (field_5 _ _)
    | 16, _, ho =>
      simp only [List.getElem?_toArray, List.getElem?_cons_zero, List.getElem?_cons_succ, Option.some.injEq] at ho; subst ho
      refine webStep_of HB rfl (fun f aC wz hw hd ha hv hsp K hK => ?_)
      have e1 : aC.eval (.tmp 18) = .pointer (some ⟨w.heap.size, 5, none⟩) := (hd 15 18 (by rw [hops]; kernel_rfl : Region.waitsFor .any ops 16 15 = true) (by rw [hops]; kernel_rfl : dstOf ops 15 = some 18) (by simp)).trans (hv 15 (by rw [hops]; kernel_rfl : Region.waitsFor .any ops 16 15 = true))
      refine wp_val (v := V.c) (w' := wz) ?_ (hK _ _ (Below.refl _ _) rfl trivial)
      show ((do pure (Next.value (← Instr.loadAt 22 (aC.eval (.tmp 18)))) : Sem Next)).run Try.prog wz = _
      rw [e1]
      exact run_value (load_at _ load_I (HCELL wz hw 5))
    | 17, _, ho =>
      simp only [List.getElem?_toArray, List.getElem?_cons_zero, List.getElem?_cons_succ, Option.some.injEq] at ho; subst ho
      refine webStep_of HB rfl (fun f aC wz hw hd ha hv hsp K hK => ?_)
      have e1 : aC.eval (.tmp 19) = V.c := (hd 16 19 (by rw [hops]; kernel_rfl : Region.waitsFor .any ops 17 16 = true) (by rw [hops]; kernel_rfl : dstOf ops 16 = some 19) (by simp)).trans (hv 16 (by rw [hops]; kernel_rfl : Region.waitsFor .any ops 17 16 = true))
      refine wp_enter (f := 30) (args := #[V.c]) ?_ ((CopyInts_any wz V.c C.constraints (HIN wz hw).c HR.out.c).mono ?_)
      · simp [execOp, resolve, e1]; rfl
      · rintro e w' ⟨v', rfl, hown, hbel⟩
        exact ⟨v', rfl, hK v' w' hbel (own_base hown (HSZ wz hw)) trivial⟩
    | 18, _, ho =>
      simp only [List.getElem?_toArray, List.getElem?_cons_zero, List.getElem?_cons_succ, Option.some.injEq] at ho; subst ho
      refine webStep_of HB rfl (fun f aC wz hw hd ha hv hsp K hK => ?_)
      have e1 : aC.eval (.tmp 1) = .pointer (some ⟨w.heap.size, 0, none⟩) := (ha 1 HND).trans rfl
      refine wp_val (v := .pointer (some ⟨w.heap.size, 6, none⟩)) (w' := wz) ?_ (hK _ _ (Below.refl _ _) rfl trivial)
      show ((do pure (Next.value (← Instr.fieldAt 29 (aC.eval (.tmp 1)) 6)) : Sem Next)).run Try.prog wz = _
      rw [e1]
      exact run_value (field_6 _ _)
    | 19, _, ho =>
      simp only [List.getElem?_toArray, List.getElem?_cons_zero, List.getElem?_cons_succ, Option.some.injEq] at ho; subst ho
      refine webStep_of HB rfl (fun f aC wz hw hd ha hv hsp K hK => ?_)
      have e1 : aC.eval (.tmp 21) = .pointer (some ⟨w.heap.size, 6, none⟩) := (hd 18 21 (by rw [hops]; kernel_rfl : Region.waitsFor .any ops 19 18 = true) (by rw [hops]; kernel_rfl : dstOf ops 18 = some 21) (by simp)).trans (hv 18 (by rw [hops]; kernel_rfl : Region.waitsFor .any ops 19 18 = true))
      refine wp_val (v := V.j) (w' := wz) ?_ (hK _ _ (Below.refl _ _) rfl trivial)
      show ((do pure (Next.value (← Instr.loadAt 24 (aC.eval (.tmp 21)))) : Sem Next)).run Try.prog wz = _
      rw [e1]
      exact run_value (load_at _ load_V (HCELL wz hw 6))
    | 20, _, ho =>
      simp only [List.getElem?_toArray, List.getElem?_cons_zero, List.getElem?_cons_succ, Option.some.injEq] at ho; subst ho
      refine webStep_of HB rfl (fun f aC wz hw hd ha hv hsp K hK => ?_)
      have e1 : aC.eval (.tmp 22) = V.j := (hd 19 22 (by rw [hops]; kernel_rfl : Region.waitsFor .any ops 20 19 = true) (by rw [hops]; kernel_rfl : dstOf ops 19 = some 22) (by simp)).trans (hv 19 (by rw [hops]; kernel_rfl : Region.waitsFor .any ops 20 19 = true))
      refine wp_enter (f := 31) (args := #[V.j]) ?_ ((CopyLists_any wz V.j C.justice (HIN wz hw).j HR.out.j HR.out.js).mono ?_)
      · simp [execOp, resolve, e1]; rfl
      · rintro e w' ⟨v', us, rfl, hj, hbel⟩
        exact ⟨v', rfl, hK v' w' hbel ⟨us, hj.base (HSZ wz hw)⟩ trivial⟩
    | 21, _, ho =>
      simp only [List.getElem?_toArray, List.getElem?_cons_zero, List.getElem?_cons_succ, Option.some.injEq] at ho; subst ho
      refine webStep_of HB rfl (fun f aC wz hw hd ha hv hsp K hK => ?_)
      have e1 : aC.eval (.tmp 1) = .pointer (some ⟨w.heap.size, 0, none⟩) := (ha 1 HND).trans rfl
      refine wp_val (v := .pointer (some ⟨w.heap.size, 7, none⟩)) (w' := wz) ?_ (hK _ _ (Below.refl _ _) rfl trivial)
      show ((do pure (Next.value (← Instr.fieldAt 29 (aC.eval (.tmp 1)) 7)) : Sem Next)).run Try.prog wz = _
      rw [e1]
      exact run_value (field_7 _ _)
    | 22, _, ho =>
      simp only [List.getElem?_toArray, List.getElem?_cons_zero, List.getElem?_cons_succ, Option.some.injEq] at ho; subst ho
      refine webStep_of HB rfl (fun f aC wz hw hd ha hv hsp K hK => ?_)
      have e1 : aC.eval (.tmp 24) = .pointer (some ⟨w.heap.size, 7, none⟩) := (hd 21 24 (by rw [hops]; kernel_rfl : Region.waitsFor .any ops 22 21 = true) (by rw [hops]; kernel_rfl : dstOf ops 21 = some 24) (by simp)).trans (hv 21 (by rw [hops]; kernel_rfl : Region.waitsFor .any ops 22 21 = true))
      refine wp_val (v := V.f) (w' := wz) ?_ (hK _ _ (Below.refl _ _) rfl trivial)
      show ((do pure (Next.value (← Instr.loadAt 22 (aC.eval (.tmp 24)))) : Sem Next)).run Try.prog wz = _
      rw [e1]
      exact run_value (load_at _ load_I (HCELL wz hw 7))
    | 23, _, ho =>
      simp only [List.getElem?_toArray, List.getElem?_cons_zero, List.getElem?_cons_succ, Option.some.injEq] at ho; subst ho
      refine webStep_of HB rfl (fun f aC wz hw hd ha hv hsp K hK => ?_)
      have e1 : aC.eval (.tmp 25) = V.f := (hd 22 25 (by rw [hops]; kernel_rfl : Region.waitsFor .any ops 23 22 = true) (by rw [hops]; kernel_rfl : dstOf ops 22 = some 25) (by simp)).trans (hv 22 (by rw [hops]; kernel_rfl : Region.waitsFor .any ops 23 22 = true))
      refine wp_enter (f := 30) (args := #[V.f]) ?_ ((CopyInts_any wz V.f C.fairness (HIN wz hw).f HR.out.f).mono ?_)
      · simp [execOp, resolve, e1]; rfl
      · rintro e w' ⟨v', rfl, hown, hbel⟩
        exact ⟨v', rfl, hK v' w' hbel (own_base hown (HSZ wz hw)) trivial⟩
    | 24, _, ho =>
      simp only [List.getElem?_toArray, List.getElem?_cons_zero, List.getElem?_cons_succ, Option.some.injEq] at ho; subst ho
      refine webStep_of HB rfl (fun f aC wz hw hd ha hv hsp K hK => ?_)
      refine wp_val (v := .slice (some ⟨wz.heap.size, 0, none⟩) 0 0) (w' := wz.alloc (.cells #[] 56)) ?_ (hK _ _ ((Below.refl _ _).alloc (Nat.le_refl _) _) ⟨_, rfl, HSZ wz hw, Blk.new _ _ _⟩ trivial)
      simp only [execOp, List.map_toArray, List.map_nil]
      exact run_value (new_A wz)
    | 25, _, ho =>
      simp only [List.getElem?_toArray, List.getElem?_cons_zero, List.getElem?_cons_succ, Option.some.injEq] at ho; subst ho
      refine webStep_of HB rfl (fun f aC wz hw hd ha hv hsp K hK => ?_)
      have e1 : aC.eval (.tmp 1) = .pointer (some ⟨w.heap.size, 0, none⟩) := (ha 1 HND).trans rfl
      refine wp_val (v := .pointer (some ⟨w.heap.size, 8, none⟩)) (w' := wz) ?_ (hK _ _ (Below.refl _ _) rfl trivial)
      show ((do pure (Next.value (← Instr.fieldAt 29 (aC.eval (.tmp 1)) 8)) : Sem Next)).run Try.prog wz = _
      rw [e1]
      exact run_value (field_8 _ _)
    | 26, _, ho =>
      simp only [List.getElem?_toArray, List.getElem?_cons_zero, List.getElem?_cons_succ, Option.some.injEq] at ho; subst ho
      refine webStep_of HB rfl (fun f aC wz hw hd ha hv hsp K hK => ?_)
      have e1 : aC.eval (.tmp 28) = .pointer (some ⟨w.heap.size, 8, none⟩) := (hd 25 28 (by rw [hops]; kernel_rfl : Region.waitsFor .any ops 26 25 = true) (by rw [hops]; kernel_rfl : dstOf ops 25 = some 28) (by simp)).trans (hv 25 (by rw [hops]; kernel_rfl : Region.waitsFor .any ops 26 25 = true))
      refine wp_val (v := V.a) (w' := wz) ?_ (hK _ _ (Below.refl _ _) rfl trivial)
      show ((do pure (Next.value (← Instr.loadAt 25 (aC.eval (.tmp 28)))) : Sem Next)).run Try.prog wz = _
      rw [e1]
      exact run_value (load_at _ load_A (HCELL wz hw 8))
    | 27, _, ho =>
      simp only [List.getElem?_toArray, List.getElem?_cons_zero, List.getElem?_cons_succ, Option.some.injEq] at ho; subst ho
      refine webStep_of HB rfl (fun f aC wz hw hd ha hv hsp K hK => ?_)
      have e1 := hd 24 27 (by rw [hops]; kernel_rfl : Region.waitsFor .any ops 27 24 = true) (by rw [hops]; kernel_rfl : dstOf ops 24 = some 27) (by simp)
      have e2 : aC.eval (.tmp 29) = V.a := (hd 26 29 (by rw [hops]; kernel_rfl : Region.waitsFor .any ops 27 26 = true) (by rw [hops]; kernel_rfl : dstOf ops 26 = some 29) (by simp)).trans (hv 26 (by rw [hops]; kernel_rfl : Region.waitsFor .any ops 27 26 = true))
      obtain ⟨g, eg, hgB, hgb⟩ : ∃ g, f 24 = .slice (some ⟨g, 0, none⟩) 0 0 ∧ w.heap.size ≤ g ∧ Blk wz g 56 #[] := hv 24 (by rw [hops]; kernel_rfl : Region.waitsFor .any ops 27 24 = true)
      obtain ⟨A, c, eA, hrd⟩ := (HIN wz hw).a.reads lenT (by omega)
      refine wp_append_fresh (.tmp 27) (.tmp 29) _ rfl w.heap.size 56 iA _ 3 24 Try.underlying25 hiA hA0 hA1 hA2 rfl (by omega) g (e1.trans eg) hgb hgB wz.heap.size A C.ands.length c (C.ands.flatMap encT) (e2.trans eA) hrd (flat_one oneT _) (by have := HR.out.a; simp only [maxLen]; omega) HR.out.a (HSZ wz hw) ?_
      exact fun v' w' hown hbel => hK v' w' hbel hown trivial
    | 28, _, ho =>
      simp only [List.getElem?_toArray, List.getElem?_cons_zero, List.getElem?_cons_succ, Option.some.injEq] at ho; subst ho
      refine webStep_of HB rfl (fun f aC wz hw hd ha hv hsp K hK => ?_)
      refine wp_val (v := .slice (some ⟨wz.heap.size, 0, none⟩) 0 0) (w' := wz.alloc (.cells #[] 107)) ?_ (hK _ _ ((Below.refl _ _).alloc (Nat.le_refl _) _) ⟨_, rfl, HSZ wz hw, Blk.new _ _ _⟩ trivial)
      simp only [execOp, List.map_toArray, List.map_nil]
      exact run_value (new_S wz)
    | 29, _, ho =>
      simp only [List.getElem?_toArray, List.getElem?_cons_zero, List.getElem?_cons_succ, Option.some.injEq] at ho; subst ho
      refine webStep_of HB rfl (fun f aC wz hw hd ha hv hsp K hK => ?_)
      have e1 : aC.eval (.tmp 1) = .pointer (some ⟨w.heap.size, 0, none⟩) := (ha 1 HND).trans rfl
      refine wp_val (v := .pointer (some ⟨w.heap.size, 9, none⟩)) (w' := wz) ?_ (hK _ _ (Below.refl _ _) rfl trivial)
      show ((do pure (Next.value (← Instr.fieldAt 29 (aC.eval (.tmp 1)) 9)) : Sem Next)).run Try.prog wz = _
      rw [e1]
      exact run_value (field_9 _ _)
    | 30, _, ho =>
      simp only [List.getElem?_toArray, List.getElem?_cons_zero, List.getElem?_cons_succ, Option.some.injEq] at ho; subst ho
      refine webStep_of HB rfl (fun f aC wz hw hd ha hv hsp K hK => ?_)
      have e1 : aC.eval (.tmp 32) = .pointer (some ⟨w.heap.size, 9, none⟩) := (hd 29 32 (by rw [hops]; kernel_rfl : Region.waitsFor .any ops 30 29 = true) (by rw [hops]; kernel_rfl : dstOf ops 29 = some 32) (by simp)).trans (hv 29 (by rw [hops]; kernel_rfl : Region.waitsFor .any ops 30 29 = true))
      refine wp_val (v := V.s) (w' := wz) ?_ (hK _ _ (Below.refl _ _) rfl trivial)
      show ((do pure (Next.value (← Instr.loadAt 26 (aC.eval (.tmp 32)))) : Sem Next)).run Try.prog wz = _
      rw [e1]
      exact run_value (load_at _ load_S (HCELL wz hw 9))
    | 31, _, ho =>
      simp only [List.getElem?_toArray, List.getElem?_cons_zero, List.getElem?_cons_succ, Option.some.injEq] at ho; subst ho
      refine webStep_of HB rfl (fun f aC wz hw hd ha hv hsp K hK => ?_)
      have e1 := hd 28 31 (by rw [hops]; kernel_rfl : Region.waitsFor .any ops 31 28 = true) (by rw [hops]; kernel_rfl : dstOf ops 28 = some 31) (by simp)
      have e2 : aC.eval (.tmp 33) = V.s := (hd 30 33 (by rw [hops]; kernel_rfl : Region.waitsFor .any ops 31 30 = true) (by rw [hops]; kernel_rfl : dstOf ops 30 = some 33) (by simp)).trans (hv 30 (by rw [hops]; kernel_rfl : Region.waitsFor .any ops 31 30 = true))
      obtain ⟨g, eg, hgB, hgb⟩ : ∃ g, f 28 = .slice (some ⟨g, 0, none⟩) 0 0 ∧ w.heap.size ≤ g ∧ Blk wz g 107 #[] := hv 28 (by rw [hops]; kernel_rfl : Region.waitsFor .any ops 31 28 = true)
      obtain ⟨A, c, eA, hrd⟩ := (HIN wz hw).s.reads lenS (by omega)
      refine wp_append_fresh (.tmp 31) (.tmp 33) _ rfl w.heap.size 107 iS _ 3 32 Try.underlying26 hiS hS0 hS1 hS2 rfl (by omega) g (e1.trans eg) hgb hgB wz.heap.size A C.symbols.length c (C.symbols.flatMap encS) (e2.trans eA) hrd (flat_one oneS _) (by have := HR.out.s; simp only [maxLen]; omega) HR.out.s (HSZ wz hw) ?_
      exact fun v' w' hown hbel => hK v' w' hbel hown trivial
    | 32, _, ho =>
      simp only [List.getElem?_toArray, List.getElem?_cons_zero, List.getElem?_cons_succ, Option.some.injEq] at ho; subst ho
      refine webStep_of HB rfl (fun f aC wz hw hd ha hv hsp K hK => ?_)
      refine wp_val (v := .slice (some ⟨wz.heap.size, 0, none⟩) 0 0) (w' := wz.alloc (.cells #[] 9)) ?_ (hK _ _ ((Below.refl _ _).alloc (Nat.le_refl _) _) ⟨_, rfl, HSZ wz hw, Blk.new _ _ _⟩ trivial)
      simp only [execOp, List.map_toArray, List.map_nil]
      exact run_value (new_B wz)
    | 33, _, ho =>
      simp only [List.getElem?_toArray, List.getElem?_cons_zero, List.getElem?_cons_succ, Option.some.injEq] at ho; subst ho
      refine webStep_of HB rfl (fun f aC wz hw hd ha hv hsp K hK => ?_)
      have e1 : aC.eval (.tmp 1) = .pointer (some ⟨w.heap.size, 0, none⟩) := (ha 1 HND).trans rfl
      refine wp_val (v := .pointer (some ⟨w.heap.size, 10, none⟩)) (w' := wz) ?_ (hK _ _ (Below.refl _ _) rfl trivial)
      show ((do pure (Next.value (← Instr.fieldAt 29 (aC.eval (.tmp 1)) 10)) : Sem Next)).run Try.prog wz = _
      rw [e1]
      exact run_value (field_10 _ _)
    | 34, _, ho =>
      simp only [List.getElem?_toArray, List.getElem?_cons_zero, List.getElem?_cons_succ, Option.some.injEq] at ho; subst ho
      refine webStep_of HB rfl (fun f aC wz hw hd ha hv hsp K hK => ?_)
      have e1 : aC.eval (.tmp 36) = .pointer (some ⟨w.heap.size, 10, none⟩) := (hd 33 36 (by rw [hops]; kernel_rfl : Region.waitsFor .any ops 34 33 = true) (by rw [hops]; kernel_rfl : dstOf ops 33 = some 36) (by simp)).trans (hv 33 (by rw [hops]; kernel_rfl : Region.waitsFor .any ops 34 33 = true))
      refine wp_val (v := V.t) (w' := wz) ?_ (hK _ _ (Below.refl _ _) rfl trivial)
      show ((do pure (Next.value (← Instr.loadAt 27 (aC.eval (.tmp 36)))) : Sem Next)).run Try.prog wz = _
      rw [e1]
      exact run_value (load_at _ load_B (HCELL wz hw 10))
    | 35, _, ho =>
      simp only [List.getElem?_toArray, List.getElem?_cons_zero, List.getElem?_cons_succ, Option.some.injEq] at ho; subst ho
      refine webStep_of HB rfl (fun f aC wz hw hd ha hv hsp K hK => ?_)
      have e1 := hd 32 35 (by rw [hops]; kernel_rfl : Region.waitsFor .any ops 35 32 = true) (by rw [hops]; kernel_rfl : dstOf ops 32 = some 35) (by simp)
      have e2 : aC.eval (.tmp 37) = V.t := (hd 34 37 (by rw [hops]; kernel_rfl : Region.waitsFor .any ops 35 34 = true) (by rw [hops]; kernel_rfl : dstOf ops 34 = some 37) (by simp)).trans (hv 34 (by rw [hops]; kernel_rfl : Region.waitsFor .any ops 35 34 = true))
      obtain ⟨g, eg, hgB, hgb⟩ : ∃ g, f 32 = .slice (some ⟨g, 0, none⟩) 0 0 ∧ w.heap.size ≤ g ∧ Blk wz g 9 #[] := hv 32 (by rw [hops]; kernel_rfl : Region.waitsFor .any ops 35 32 = true)
      obtain ⟨A, c, eA, hrd⟩ := (HIN wz hw).t.reads lenB (by omega)
      refine wp_append_fresh (.tmp 35) (.tmp 37) _ rfl w.heap.size 9 iB _ 1 16 Try.underlying27 hiB hB0 hB1 hB2 rfl (by omega) g (e1.trans eg) hgb hgB wz.heap.size A C.comments.length c (C.comments.flatMap encB) (e2.trans eA) hrd (flat_one oneB _) (by have := HR.out.t; simp only [maxLen]; omega) HR.out.t (HSZ wz hw) ?_
      exact fun v' w' hown hbel => hK v' w' hbel hown trivial
    | 36, _, ho =>
      simp only [List.getElem?_toArray, List.getElem?_cons_zero, List.getElem?_cons_succ, Option.some.injEq] at ho; subst ho
      refine webStep_of HB rfl (fun f aC wz hw hd ha hv hsp K hK => ?_)
      have em : aC.eval (.tmp 4) = .int .i64 C.max := (hd 1 4 (by rw [hops]; kernel_rfl : Region.waitsFor .any ops 36 1 = true) (by rw [hops]; kernel_rfl : dstOf ops 1 = some 4) (by simp)).trans (hv 1 (by rw [hops]; kernel_rfl : Region.waitsFor .any ops 36 1 = true))
      have xi := hd 4 7 (by rw [hops]; kernel_rfl : Region.waitsFor .any ops 36 4 = true) (by rw [hops]; kernel_rfl : dstOf ops 4 = some 7) (by simp)
      have ri : wz.ownsRow w.heap.size 3 1 (f 4) C.inputs.length (C.inputs.flatMap encI) := hv 4 (by rw [hops]; kernel_rfl : Region.waitsFor .any ops 36 4 = true)
      obtain ⟨Ai, ci, si⟩ := own_slice_k ri
      have xl := hd 8 11 (by rw [hops]; kernel_rfl : Region.waitsFor .any ops 36 8 = true) (by rw [hops]; kernel_rfl : dstOf ops 8 = some 11) (by simp)
      have rl : wz.ownsRow w.heap.size 54 3 (f 8) C.latches.length (C.latches.flatMap encT) := hv 8 (by rw [hops]; kernel_rfl : Region.waitsFor .any ops 36 8 = true)
      obtain ⟨Al, cl, sl⟩ := own_slice_k rl
      have xo := hd 11 14 (by rw [hops]; kernel_rfl : Region.waitsFor .any ops 36 11 = true) (by rw [hops]; kernel_rfl : dstOf ops 11 = some 14) (by simp)
      have ro : wz.ownsRow w.heap.size 3 1 (f 11) C.outputs.length (C.outputs.flatMap encI) := hv 11 (by rw [hops]; kernel_rfl : Region.waitsFor .any ops 36 11 = true)
      obtain ⟨Ao, co, so⟩ := own_slice_k ro
      have xb := hd 14 17 (by rw [hops]; kernel_rfl : Region.waitsFor .any ops 36 14 = true) (by rw [hops]; kernel_rfl : dstOf ops 14 = some 17) (by simp)
      have rb : wz.ownsRow w.heap.size 3 1 (f 14) C.bads.length (C.bads.flatMap encI) := hv 14 (by rw [hops]; kernel_rfl : Region.waitsFor .any ops 36 14 = true)
      obtain ⟨Ab, cb, sb⟩ := own_slice_k rb
      have xc := hd 17 20 (by rw [hops]; kernel_rfl : Region.waitsFor .any ops 36 17 = true) (by rw [hops]; kernel_rfl : dstOf ops 17 = some 20) (by simp)
      have rc : wz.ownsRow w.heap.size 3 1 (f 17) C.constraints.length (C.constraints.flatMap encI) := hv 17 (by rw [hops]; kernel_rfl : Region.waitsFor .any ops 36 17 = true)
      obtain ⟨Ac, cc, sc⟩ := own_slice_k rc
      have xj := hd 20 23 (by rw [hops]; kernel_rfl : Region.waitsFor .any ops 36 20 = true) (by rw [hops]; kernel_rfl : dstOf ops 20 = some 23) (by simp)
      obtain ⟨us, rj⟩ : ∃ us, JRow wz w.heap.size (f 20) us C.justice := hv 20 (by rw [hops]; kernel_rfl : Region.waitsFor .any ops 36 20 = true)
      obtain ⟨Aj, cj, sj⟩ := own_slice_k rj.own
      have xf := hd 23 26 (by rw [hops]; kernel_rfl : Region.waitsFor .any ops 36 23 = true) (by rw [hops]; kernel_rfl : dstOf ops 23 = some 26) (by simp)
      have rf : wz.ownsRow w.heap.size 3 1 (f 23) C.fairness.length (C.fairness.flatMap encI) := hv 23 (by rw [hops]; kernel_rfl : Region.waitsFor .any ops 36 23 = true)
      obtain ⟨Af, cf, sf⟩ := own_slice_k rf
      have xa := hd 27 30 (by rw [hops]; kernel_rfl : Region.waitsFor .any ops 36 27 = true) (by rw [hops]; kernel_rfl : dstOf ops 27 = some 30) (by simp)
      have ra : wz.ownsRow w.heap.size 56 3 (f 27) C.ands.length (C.ands.flatMap encT) := hv 27 (by rw [hops]; kernel_rfl : Region.waitsFor .any ops 36 27 = true)
      obtain ⟨Aa, ca, sa⟩ := own_slice_k ra
      have xs := hd 31 34 (by rw [hops]; kernel_rfl : Region.waitsFor .any ops 36 31 = true) (by rw [hops]; kernel_rfl : dstOf ops 31 = some 34) (by simp)
      have rs : wz.ownsRow w.heap.size 107 3 (f 31) C.symbols.length (C.symbols.flatMap encS) := hv 31 (by rw [hops]; kernel_rfl : Region.waitsFor .any ops 36 31 = true)
      obtain ⟨As, cs, ss⟩ := own_slice_k rs
      have xt := hd 35 38 (by rw [hops]; kernel_rfl : Region.waitsFor .any ops 36 35 = true) (by rw [hops]; kernel_rfl : dstOf ops 35 = some 38) (by simp)
      have rt : wz.ownsRow w.heap.size 9 1 (f 35) C.comments.length (C.comments.flatMap encB) := hv 35 (by rw [hops]; kernel_rfl : Region.waitsFor .any ops 36 35 = true)
      obtain ⟨At, ct, st⟩ := own_slice_k rt
      refine wp_val (v := CV.val ⟨f 4, f 8, f 11, f 14, f 17, f 20, f 23, f 27, f 31, f 35⟩ C.max) (w' := wz) ?_ (hK _ _ (Below.refl _ _) ⟨⟨f 4, f 8, f 11, f 14, f 17, f 20, f 23, f 27, f 31, f 35⟩, us, rfl, ⟨ri, rl, ro, rb, rc, rj, rf, ra, rs, rt⟩⟩ trivial)
      simp only [execOp, List.map_toArray, List.map_cons, List.map_nil, em, xi, xl, xo, xb, xc, xj, xf, xa, xs, xt]
      rw [si, sl, so, sb, sc, sj, sf, sa, ss, st]
      exact run_value (build_circ _ _ _ _ _ _ _ _ _ _ _ _ _ _ _ _ _ _ _ _ _ _ _ _ _ _ _ _ _ _ _ _)
    | n + 37, h, _ => exact absurd h (by omega)
  · intro f wz hw hv hsp
    rw [← hw0] at hw
    obtain ⟨V', us, e36, hc⟩ : ∃ (V' : CV) (us : List Value), f 36 = V'.val C.max ∧ CopB wz w.heap.size C us V' := hv 36 (by omega)
    have e : putAll ops f (List.range 37) ({ tmps := #[V.val C.max, .pointer (some ⟨w.heap.size, 0, none⟩), .pointer (some ⟨w.heap.size + 1, 0, none⟩), undef, undef, undef, undef, undef, undef, undef, undef, undef, undef, undef, undef, undef, undef, undef, undef, undef, undef, undef, undef, undef, undef, undef, undef, undef, undef, undef, undef, undef, undef, undef, undef, undef, undef, undef, undef, undef], defers := [] } : Act) = ({ tmps := #[V.val C.max, .pointer (some ⟨w.heap.size, 0, none⟩), .pointer (some ⟨w.heap.size + 1, 0, none⟩), f 0, f 1, f 2, f 3, f 4, f 5, f 6, f 7, f 8, f 9, f 10, f 11, f 12, f 13, f 14, f 15, f 16, f 17, f 18, f 19, f 20, f 21, f 22, f 23, f 24, f 25, f 26, f 27, f 28, f 29, f 30, f 31, f 32, f 33, f 34, f 35, f 36], defers := [] } : Act) := by rw [hops]; kernel_rfl
    rw [e]
    clear e
    have hone : (V'.cells C.max).all (·.oneCell') = true := by
      obtain ⟨_, _, e0⟩ := own_slice_k hc.i
      obtain ⟨_, _, e1⟩ := own_slice_k hc.l
      obtain ⟨_, _, e2⟩ := own_slice_k hc.o
      obtain ⟨_, _, e3⟩ := own_slice_k hc.b
      obtain ⟨_, _, e4⟩ := own_slice_k hc.c
      obtain ⟨_, _, e5⟩ := own_slice_k hc.j.own
      obtain ⟨_, _, e6⟩ := own_slice_k hc.f
      obtain ⟨_, _, e7⟩ := own_slice_k hc.a
      obtain ⟨_, _, e8⟩ := own_slice_k hc.s
      obtain ⟨_, _, e9⟩ := own_slice_k hc.t
      simp only [CV.cells]
      rw [e0, e1, e2, e3, e4, e5, e6, e7, e8, e9]
      simp [Value.oneCell']
    have hblk : Blk wz (w.heap.size + 1) 29 #[.int .i64 0, .slice none 0 0, .slice none 0 0, .slice none 0 0, .slice none 0 0, .slice none 0 0, .slice none 0 0, .slice none 0 0, .slice none 0 0, .slice none 0 0, .slice none 0 0] := by
      have h1 : Blk w0 (w.heap.size + 1) 29 #[.int .i64 0, .slice none 0 0, .slice none 0 0, .slice none 0 0, .slice none 0 0, .slice none 0 0, .slice none 0 0, .slice none 0 0, .slice none 0 0, .slice none 0 0, .slice none 0 0] := by
        rw [hw0]
        have := Blk.new (w.alloc (.cells (V.cells C.max) 29)) 29 #[.int .i64 0, .slice none 0 0, .slice none 0 0, .slice none 0 0, .slice none 0 0, .slice none 0 0, .slice none 0 0, .slice none 0 0, .slice none 0 0, .slice none 0 0, .slice none 0 0]
        simp only [alloc_size] at this
        exact this.drew
      exact h1.below hw h1.lt
    have ho37 : ∃ o, ops[37]? = some o ∧ o.guard = none ∧ o.op = .store 29 (.tmp 2) (.tmp 39) ∧ o.dst = none := by rw [hops]; exact ⟨_, rfl, rfl, rfl, rfl⟩
    obtain ⟨o, ho1, ho2, ho3, ho4⟩ := ho37
    refine wpOp_of ho1 ho2 ?_
    refine wp_store_row 29 (.tmp 2) (.tmp 39) ho3 (w.heap.size + 1) (V'.cells C.max) (by rfl) (by exact e36) 29 _ hblk (by kernel_rfl) rfl hone ?_
    rw [ho4]
    clear ho1 ho2 ho3 ho4 hops HBA HB HND
    obtain ⟨w3, hw3⟩ : ∃ w3, w3 = wz.setRow (w.heap.size + 1) (V'.cells C.max) := ⟨_, rfl⟩
    rw [← hw3]
    have hb3 : Blk w3 (w.heap.size + 1) 29 (V'.cells C.max) := by rw [hw3]; exact setRow_heap wz (w.heap.size + 1) _ (V'.cells C.max) _ _ hblk
    have hoth : ∀ k, k ≠ w.heap.size + 1 → w3.heap[k]? = wz.heap[k]? := fun k hk => by
      rw [hw3]
      simp only [World.setRow, Array.getElem?_modify]
      rw [if_neg (fun e => hk e.symm)]
    have hsz3 : w3.heap.size = wz.heap.size := by rw [hw3]; simp
    have hne : ∀ {t : TypeId} {k n : Nat} {v : Value} {xs : List Value}, wz.ownsRow w.heap.size t k v n xs → t ≠ 29 → w3.ownsRow w.heap.size t k v n xs := fun ho ht =>
      own_of_block ho fun g hg => hoth g (fun e => own_blk_ne ho hblk ht (by rw [hg, e]))
    have hc3 : CopB w3 w.heap.size C us V' := ⟨hne hc.i (by decide), hne hc.l (by decide), hne hc.o (by decide), hne hc.b (by decide), hne hc.c (by decide), ⟨hc.j.ul, hne hc.j.own (by decide), fun i u zs hu hz => hne (hc.j.each i u zs hu hz) (by decide)⟩, hne hc.f (by decide), hne hc.a (by decide), hne hc.s (by decide), hne hc.t (by decide)⟩
    have hbel : Below w.heap.size w w3 := by
      have h1 := bt hb0 (by omega) (hw.mono (Nat.le_refl _))
      exact ⟨by rw [hw3]; exact h1.os, by rw [hw3]; exact h1.tape, by rw [hw3]; exact h1.output, by rw [hsz3]; exact h1.size, fun k hk => (hoth k (by omega)).trans (h1.block k hk)⟩
    have HC3 := Lib.hid hc3
    have HBL := Lib.hid hbel
    have HB3 := Lib.hid hb3
    clear hw3 hsz3 hne hoth hc3 hbel hb3 hv hsp hblk hc hone hw HCELL HIN HSZ hx0 hb0 hs0 hw0
    go_wp2
    refine bodyPost_ret (results_cell_row (fn := Try.f16) rfl _ _ (w.heap.size + 1) 29 (V'.cells C.max) (0, 0) _ rfl HB3.out Try.underlying29 rfl (by kernel_rfl)) rfl ?_
    exact ⟨V', us, rfl, HBL.out, HC3.out⟩
end Go.Proofs.Ytfbnhkndlohalaa

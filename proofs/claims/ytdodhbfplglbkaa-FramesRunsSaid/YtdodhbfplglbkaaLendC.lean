/- The contract of the statements' own LendCircuit: a copy of a circuit whose lists have one thing more behind their ends. -/
import Derived.Test.YtdodhbfplglbkaaAppF
import Derived.Deep.DeepCutAuto
import Derived.Deep.RegionHeld3
namespace Go.Proofs.Ytdodhbfplglbkaa
open Go.RowKit

/-- New lists of a circuit's members, the justice's own lists among them. -/
structure CopB (w : World) (B : Nat) (C : Circ) (us : List Value) (V : CV) : Prop where
  i : w.ownsRow B 3 1 V.i C.inputs.length (C.inputs.flatMap encI)
  l : w.ownsRow B 70 3 V.l C.latches.length (C.latches.flatMap encT)
  o : w.ownsRow B 3 1 V.o C.outputs.length (C.outputs.flatMap encI)
  b : w.ownsRow B 3 1 V.b C.bads.length (C.bads.flatMap encI)
  c : w.ownsRow B 3 1 V.c C.constraints.length (C.constraints.flatMap encI)
  j : JRow w B V.j us C.justice
  f : w.ownsRow B 3 1 V.f C.fairness.length (C.fairness.flatMap encI)
  a : w.ownsRow B 68 3 V.a C.ands.length (C.ands.flatMap encT)
  s : w.ownsRow B 155 3 V.s C.symbols.length (C.symbols.flatMap encS)
  t : w.ownsRow B 9 1 V.t C.comments.length (C.comments.flatMap encB)
theorem CopB.below {w w' : World} {B : Nat} {C : Circ} {us : List Value} {V : CV} (h : CopB w B C us V) (hb : Below w.heap.size w w') : CopB w' B C us V :=
  ⟨own_below h.i hb, own_below h.l hb, own_below h.o hb, own_below h.b hb, own_below h.c hb, h.j.below hb, own_below h.f hb, own_below h.a hb, own_below h.s hb, own_below h.t hb⟩
theorem CopB.in_ {w : World} {B : Nat} {C : Circ} {us : List Value} {V : CV} (h : CopB w B C us V) : C.In w V :=
  ⟨own_rowe lenI h.i, own_rowe lenT h.l, own_rowe lenI h.o, own_rowe lenI h.b, own_rowe lenI h.c, h.j.lists, own_rowe lenI h.f, own_rowe lenT h.a, own_rowe lenS h.s, own_rowe lenB h.t⟩
def bookVals (B bx : Nat) (V : CV) (C : Circ) : List (Value → World → Prop) := [
  cst (.pointer (some ⟨bx, 0, none⟩)),
  cst (.int .i64 C.max),
  cst (.pointer (some ⟨bx, 1, none⟩)),
  cst V.i,
  fun v w => w.ownsRow B 3 1 v C.inputs.length (C.inputs.flatMap encI),
  fun v w => ∃ g, v = .slice (some ⟨g, 0, none⟩) 0 0 ∧ B ≤ g ∧ Blk w g 70 #[],
  cst (.pointer (some ⟨bx, 2, none⟩)),
  cst V.l,
  fun v w => w.ownsRow B 70 3 v C.latches.length (C.latches.flatMap encT),
  cst (.pointer (some ⟨bx, 3, none⟩)),
  cst V.o,
  fun v w => w.ownsRow B 3 1 v C.outputs.length (C.outputs.flatMap encI),
  cst (.pointer (some ⟨bx, 4, none⟩)),
  cst V.b,
  fun v w => w.ownsRow B 3 1 v C.bads.length (C.bads.flatMap encI),
  cst (.pointer (some ⟨bx, 5, none⟩)),
  cst V.c,
  fun v w => w.ownsRow B 3 1 v C.constraints.length (C.constraints.flatMap encI),
  cst (.pointer (some ⟨bx, 6, none⟩)),
  cst V.j,
  fun v w => ∃ us, JRow w B v us C.justice,
  cst (.pointer (some ⟨bx, 7, none⟩)),
  cst V.f,
  fun v w => w.ownsRow B 3 1 v C.fairness.length (C.fairness.flatMap encI),
  fun v w => ∃ g, v = .slice (some ⟨g, 0, none⟩) 0 0 ∧ B ≤ g ∧ Blk w g 68 #[],
  cst (.pointer (some ⟨bx, 8, none⟩)),
  cst V.a,
  fun v w => w.ownsRow B 68 3 v C.ands.length (C.ands.flatMap encT),
  fun v w => ∃ g, v = .slice (some ⟨g, 0, none⟩) 0 0 ∧ B ≤ g ∧ Blk w g 155 #[],
  cst (.pointer (some ⟨bx, 9, none⟩)),
  cst V.s,
  fun v w => w.ownsRow B 155 3 v C.symbols.length (C.symbols.flatMap encS),
  fun v w => ∃ g, v = .slice (some ⟨g, 0, none⟩) 0 0 ∧ B ≤ g ∧ Blk w g 9 #[],
  cst (.pointer (some ⟨bx, 10, none⟩)),
  cst V.t,
  fun v w => w.ownsRow B 9 1 v C.comments.length (C.comments.flatMap encB),
  fun v w => ∃ (V' : CV) (us : List Value), v = V'.val C.max ∧ CopB w B C us V']
theorem book_keep {B bx : Nat} {V : CV} {C : Circ} : ∀ i v w1 w2, Below (World.heap w1).size w1 w2 → valL (bookVals B bx V C) i v w1 → valL (bookVals B bx V C) i v w2 := by
  refine valL_keep (G := fun w1 w2 => Below (World.heap w1).size w1 w2) _ (fun p hp => ?_)
  simp only [bookVals, List.mem_cons, List.not_mem_nil, or_false] at hp
  rcases hp with rfl | rfl | rfl | rfl | rfl | rfl | rfl | rfl | rfl | rfl | rfl | rfl | rfl | rfl | rfl | rfl | rfl | rfl | rfl | rfl | rfl | rfl | rfl | rfl | rfl | rfl | rfl | rfl | rfl | rfl | rfl | rfl | rfl | rfl | rfl | rfl | rfl
  · exact cst_stab _
  · exact cst_stab _
  · exact cst_stab _
  · exact cst_stab _
  · exact fun v w w' hb h => own_below h hb
  · rintro v w w' hb ⟨g, e, h1, h2⟩; exact ⟨g, e, h1, h2.below hb h2.lt⟩
  · exact cst_stab _
  · exact cst_stab _
  · exact fun v w w' hb h => own_below h hb
  · exact cst_stab _
  · exact cst_stab _
  · exact fun v w w' hb h => own_below h hb
  · exact cst_stab _
  · exact cst_stab _
  · exact fun v w w' hb h => own_below h hb
  · exact cst_stab _
  · exact cst_stab _
  · exact fun v w w' hb h => own_below h hb
  · exact cst_stab _
  · exact cst_stab _
  · rintro v w w' hb ⟨us, h⟩; exact ⟨us, h.below hb⟩
  · exact cst_stab _
  · exact cst_stab _
  · exact fun v w w' hb h => own_below h hb
  · rintro v w w' hb ⟨g, e, h1, h2⟩; exact ⟨g, e, h1, h2.below hb h2.lt⟩
  · exact cst_stab _
  · exact cst_stab _
  · exact fun v w w' hb h => own_below h hb
  · rintro v w w' hb ⟨g, e, h1, h2⟩; exact ⟨g, e, h1, h2.below hb h2.lt⟩
  · exact cst_stab _
  · exact cst_stab _
  · exact fun v w w' hb h => own_below h hb
  · rintro v w w' hb ⟨g, e, h1, h2⟩; exact ⟨g, e, h1, h2.below hb h2.lt⟩
  · exact cst_stab _
  · exact cst_stab _
  · exact fun v w w' hb h => own_below h hb
  · rintro v w w' hb ⟨V', us, e, h⟩; exact ⟨V', us, e, h.below hb⟩
theorem new_L (w : World) : (Instr.buildSlice 23 0 #[]).run Try.prog w = .ok (.slice (some ⟨w.heap.size, 0, none⟩) 0 0) (w.alloc (.cells #[] 70)) := by kernel_rfl
theorem new_A (w : World) : (Instr.buildSlice 25 0 #[]).run Try.prog w = .ok (.slice (some ⟨w.heap.size, 0, none⟩) 0 0) (w.alloc (.cells #[] 68)) := by kernel_rfl
theorem new_S (w : World) : (Instr.buildSlice 26 0 #[]).run Try.prog w = .ok (.slice (some ⟨w.heap.size, 0, none⟩) 0 0) (w.alloc (.cells #[] 155)) := by kernel_rfl
theorem new_B (w : World) : (Instr.buildSlice 27 0 #[]).run Try.prog w = .ok (.slice (some ⟨w.heap.size, 0, none⟩) 0 0) (w.alloc (.cells #[] 9)) := by kernel_rfl
set_option maxHeartbeats 4000000 in
set_option maxRecDepth 100000 in
theorem CopyCircuit_any (w : World) (V : CV) (C : Circ) (h : C.In w V) (hr : C.Room) :
    Calls Try.prog 42 #[V.val C.max] w fun e w' => ∃ V' us, e = .returned (CV.val V' C.max) ∧ Below w.heap.size w w' ∧ CopB w' w.heap.size C us V' := by
  have HR := Lib.hid hr
  have H := Lib.hid h
  clear h hr
  go_enter Try.func42, Try.ntmps42
  go_wp2
  refine region_lit ?_
  intro ops hops
  have HBA : (webB ops && acyB ops && (ops.size == 37 + 1) && Region.sinkB .any ops 37 && (List.range (37 + 1)).all fun j => !Region.waitsFor .any ops j 37) = true := by rw [hops]; kernel_rfl
  have HB : webB ops = true := by rw [hops]; kernel_rfl
  have HND : ∀ j, j < ops.size → dstOf ops j ≠ some 1 := noDst_spec (by rw [hops]; kernel_rfl)
  obtain ⟨w0, hw0⟩ : ∃ w0 : World, w0 = { (w.alloc (.cells (V.cells C.max) 29)).alloc (.cells #[.int .i64 0, .slice none 0 0, .slice none 0 0, .slice none 0 0, .slice none 0 0, .slice none 0 0, .slice none 0 0, .slice none 0 0, .slice none 0 0, .slice none 0 0, .slice none 0 0] 29) with drawn := ((w.alloc (.cells (V.cells C.max) 29)).alloc (.cells #[.int .i64 0, .slice none 0 0, .slice none 0 0, .slice none 0 0, .slice none 0 0, .slice none 0 0, .slice none 0 0, .slice none 0 0, .slice none 0 0, .slice none 0 0, .slice none 0 0] 29)).drawn + 1 } := ⟨_, rfl⟩
  have hb0 : Below w.heap.size w w0 := by
    rw [hw0]
    exact (((Below.refl _ w).alloc (Nat.le_refl _) _).alloc (by simp) _).drew
  have hx0 : Blk w0 w.heap.size 29 (V.cells C.max) := by
    rw [hw0]
    exact ((Blk.new w _ _).alloc _).drew
  have hs0 : w0.heap.size = w.heap.size + 1 + 1 := by rw [hw0]; simp
  have HIN : ∀ wz, Below w0.heap.size w0 wz → C.In wz V := fun wz hb => (H.out.below hb0).below hb
  have HCELL : ∀ wz, Below w0.heap.size w0 wz → ∀ k, wz.cell? ⟨w.heap.size, k, none⟩ = (V.cells C.max)[k]? := fun wz hb k => (hx0.below hb hx0.lt).cell k
  have HSZ : ∀ wz, Below w0.heap.size w0 wz → w.heap.size ≤ wz.heap.size := fun wz hb => by have := hb.size; omega
  obtain ⟨iL, hiL, hL0, hL1, hL2⟩ := info_of2 infoL2
  obtain ⟨iA, hiA, hA0, hA1, hA2⟩ := info_of2 infoA2
  obtain ⟨iS, hiS, hS0, hS1, hS2⟩ := info_of2 infoS2
  obtain ⟨iB, hiB, hB0, hB1, hB2⟩ := info_of2 infoB2
  refine wp_region_web_tail (by kernel_rfl) 37 HBA (fun w1 w2 => Below w1.heap.size w1 w2) (valL (bookVals w.heap.size w.heap.size V C)) (fun _ _ _ => True) (fun _ _ _ _ => True) (fun _ _ _ _ _ _ _ _ => ⟨trivial, trivial⟩) (fun a => Below.refl _ _) (fun a b c h1 h2 => bt h1 (Nat.le_refl _) h2) book_keep ?_ ?_
  · intro i o hi ho
    rw [← hw0]
    rw [hops] at ho
    match i, hi, ho with
    | 0, _, ho =>
      simp only [List.getElem?_toArray, List.getElem?_cons_zero, Option.some.injEq] at ho; subst ho
      refine webStep_of HB rfl (fun f aC wz hw hd ha hv hsp K hK => ?_)
      have e1 : aC.eval (.tmp 1) = .pointer (some ⟨w.heap.size, 0, none⟩) := (ha 1 HND).trans rfl
      refine wp_val (v := .pointer (some ⟨w.heap.size, 0, none⟩)) (w' := wz) ?_ (hK _ _ (Below.refl _ _) rfl trivial)
      show ((do pure (Next.value (← Instr.fieldAt 29 (aC.eval (.tmp 1)) 0)) : Sem Next)).run Try.prog wz = _
      rw [e1]
      exact run_value (field_0 _ _)
    | 1, _, ho =>
      simp only [List.getElem?_toArray, List.getElem?_cons_zero, List.getElem?_cons_succ, Option.some.injEq] at ho; subst ho
      refine webStep_of HB rfl (fun f aC wz hw hd ha hv hsp K hK => ?_)
      have e1 : aC.eval (.tmp 3) = .pointer (some ⟨w.heap.size, 0, none⟩) := (hd 0 3 (by rw [hops]; kernel_rfl) (by rw [hops]; kernel_rfl) (by simp)).trans (hv 0 (by rw [hops]; kernel_rfl))
      refine wp_val (v := .int .i64 C.max) (w' := wz) ?_ (hK _ _ (Below.refl _ _) rfl trivial)
      show ((do pure (Next.value (← Instr.loadAt 3 (aC.eval (.tmp 3)))) : Sem Next)).run Try.prog wz = _
      rw [e1]
      exact run_value (load_at _ load_N (HCELL wz hw 0))
    | 2, _, ho =>
      simp only [List.getElem?_toArray, List.getElem?_cons_zero, List.getElem?_cons_succ, Option.some.injEq] at ho; subst ho
      refine webStep_of HB rfl (fun f aC wz hw hd ha hv hsp K hK => ?_)
      have e1 : aC.eval (.tmp 1) = .pointer (some ⟨w.heap.size, 0, none⟩) := (ha 1 HND).trans rfl
      refine wp_val (v := .pointer (some ⟨w.heap.size, 1, none⟩)) (w' := wz) ?_ (hK _ _ (Below.refl _ _) rfl trivial)
      show ((do pure (Next.value (← Instr.fieldAt 29 (aC.eval (.tmp 1)) 1)) : Sem Next)).run Try.prog wz = _
      rw [e1]
      exact run_value (field_1 _ _)
    | 3, _, ho =>
      simp only [List.getElem?_toArray, List.getElem?_cons_zero, List.getElem?_cons_succ, Option.some.injEq] at ho; subst ho
      refine webStep_of HB rfl (fun f aC wz hw hd ha hv hsp K hK => ?_)
      have e1 : aC.eval (.tmp 5) = .pointer (some ⟨w.heap.size, 1, none⟩) := (hd 2 5 (by rw [hops]; kernel_rfl) (by rw [hops]; kernel_rfl) (by simp)).trans (hv 2 (by rw [hops]; kernel_rfl))
      refine wp_val (v := V.i) (w' := wz) ?_ (hK _ _ (Below.refl _ _) rfl trivial)
      show ((do pure (Next.value (← Instr.loadAt 22 (aC.eval (.tmp 5)))) : Sem Next)).run Try.prog wz = _
      rw [e1]
      exact run_value (load_at _ load_I (HCELL wz hw 1))
    | 4, _, ho =>
      simp only [List.getElem?_toArray, List.getElem?_cons_zero, List.getElem?_cons_succ, Option.some.injEq] at ho; subst ho
      refine webStep_of HB rfl (fun f aC wz hw hd ha hv hsp K hK => ?_)
      have e1 : aC.eval (.tmp 6) = V.i := (hd 3 6 (by rw [hops]; kernel_rfl) (by rw [hops]; kernel_rfl) (by simp)).trans (hv 3 (by rw [hops]; kernel_rfl))
      refine wp_enter (f := 43) (args := #[V.i]) ?_ ((CopyInts_any wz V.i C.inputs (HIN wz hw).i HR.out.i).mono ?_)
      · simp [execOp, resolve, e1]; rfl
      · rintro e w' ⟨v', rfl, hown, hbel⟩
        exact ⟨v', rfl, hK v' w' hbel (own_base hown (HSZ wz hw)) trivial⟩
    | 5, _, ho =>
      simp only [List.getElem?_toArray, List.getElem?_cons_zero, List.getElem?_cons_succ, Option.some.injEq] at ho; subst ho
      refine webStep_of HB rfl (fun f aC wz hw hd ha hv hsp K hK => ?_)
      refine wp_val (v := .slice (some ⟨wz.heap.size, 0, none⟩) 0 0) (w' := wz.alloc (.cells #[] 70)) ?_ (hK _ _ ((Below.refl _ _).alloc (Nat.le_refl _) _) ⟨_, rfl, HSZ wz hw, Blk.new _ _ _⟩ trivial)
      simp only [execOp, List.map_toArray, List.map_nil]
      exact run_value (new_L wz)
    | 6, _, ho =>
      simp only [List.getElem?_toArray, List.getElem?_cons_zero, List.getElem?_cons_succ, Option.some.injEq] at ho; subst ho
      refine webStep_of HB rfl (fun f aC wz hw hd ha hv hsp K hK => ?_)
      have e1 : aC.eval (.tmp 1) = .pointer (some ⟨w.heap.size, 0, none⟩) := (ha 1 HND).trans rfl
      refine wp_val (v := .pointer (some ⟨w.heap.size, 2, none⟩)) (w' := wz) ?_ (hK _ _ (Below.refl _ _) rfl trivial)
      show ((do pure (Next.value (← Instr.fieldAt 29 (aC.eval (.tmp 1)) 2)) : Sem Next)).run Try.prog wz = _
      rw [e1]
      exact run_value (field_2 _ _)
    | 7, _, ho =>
      simp only [List.getElem?_toArray, List.getElem?_cons_zero, List.getElem?_cons_succ, Option.some.injEq] at ho; subst ho
      refine webStep_of HB rfl (fun f aC wz hw hd ha hv hsp K hK => ?_)
      have e1 : aC.eval (.tmp 9) = .pointer (some ⟨w.heap.size, 2, none⟩) := (hd 6 9 (by rw [hops]; kernel_rfl) (by rw [hops]; kernel_rfl) (by simp)).trans (hv 6 (by rw [hops]; kernel_rfl))
      refine wp_val (v := V.l) (w' := wz) ?_ (hK _ _ (Below.refl _ _) rfl trivial)
      show ((do pure (Next.value (← Instr.loadAt 23 (aC.eval (.tmp 9)))) : Sem Next)).run Try.prog wz = _
      rw [e1]
      exact run_value (load_at _ load_L (HCELL wz hw 2))
    | 8, _, ho =>
      simp only [List.getElem?_toArray, List.getElem?_cons_zero, List.getElem?_cons_succ, Option.some.injEq] at ho; subst ho
      refine webStep_of HB rfl (fun f aC wz hw hd ha hv hsp K hK => ?_)
      have e1 := hd 5 8 (by rw [hops]; kernel_rfl) (by rw [hops]; kernel_rfl) (by simp)
      have e2 : aC.eval (.tmp 10) = V.l := (hd 7 10 (by rw [hops]; kernel_rfl) (by rw [hops]; kernel_rfl) (by simp)).trans (hv 7 (by rw [hops]; kernel_rfl))
      obtain ⟨g, eg, hgB, hgb⟩ : ∃ g, f 5 = .slice (some ⟨g, 0, none⟩) 0 0 ∧ w.heap.size ≤ g ∧ Blk wz g 70 #[] := hv 5 (by rw [hops]; kernel_rfl)
      obtain ⟨A, c, eA, hrd⟩ := (HIN wz hw).l.reads lenT (by omega)
      refine wp_append_fresh (.tmp 8) (.tmp 10) _ rfl w.heap.size 70 iL _ 3 24 Try.underlying23 hiL hL0 hL1 hL2 rfl (by omega) g (e1.trans eg) hgb hgB wz.heap.size A C.latches.length c (C.latches.flatMap encT) (e2.trans eA) hrd (flat_one oneT _) (by have := HR.out.l; simp only [maxLen]; omega) HR.out.l (HSZ wz hw) ?_
      exact fun v' w' hown hbel => hK v' w' hbel hown trivial
    | 9, _, ho =>
      simp only [List.getElem?_toArray, List.getElem?_cons_zero, List.getElem?_cons_succ, Option.some.injEq] at ho; subst ho
      refine webStep_of HB rfl (fun f aC wz hw hd ha hv hsp K hK => ?_)
      have e1 : aC.eval (.tmp 1) = .pointer (some ⟨w.heap.size, 0, none⟩) := (ha 1 HND).trans rfl
      refine wp_val (v := .pointer (some ⟨w.heap.size, 3, none⟩)) (w' := wz) ?_ (hK _ _ (Below.refl _ _) rfl trivial)
      show ((do pure (Next.value (← Instr.fieldAt 29 (aC.eval (.tmp 1)) 3)) : Sem Next)).run Try.prog wz = _
      rw [e1]
      exact run_value (field_3 _ _)
    | 10, _, ho =>
      simp only [List.getElem?_toArray, List.getElem?_cons_zero, List.getElem?_cons_succ, Option.some.injEq] at ho; subst ho
      refine webStep_of HB rfl (fun f aC wz hw hd ha hv hsp K hK => ?_)
      have e1 : aC.eval (.tmp 12) = .pointer (some ⟨w.heap.size, 3, none⟩) := (hd 9 12 (by rw [hops]; kernel_rfl) (by rw [hops]; kernel_rfl) (by simp)).trans (hv 9 (by rw [hops]; kernel_rfl))
      refine wp_val (v := V.o) (w' := wz) ?_ (hK _ _ (Below.refl _ _) rfl trivial)
      show ((do pure (Next.value (← Instr.loadAt 22 (aC.eval (.tmp 12)))) : Sem Next)).run Try.prog wz = _
      rw [e1]
      exact run_value (load_at _ load_I (HCELL wz hw 3))
    | 11, _, ho =>
      simp only [List.getElem?_toArray, List.getElem?_cons_zero, List.getElem?_cons_succ, Option.some.injEq] at ho; subst ho
      refine webStep_of HB rfl (fun f aC wz hw hd ha hv hsp K hK => ?_)
      have e1 : aC.eval (.tmp 13) = V.o := (hd 10 13 (by rw [hops]; kernel_rfl) (by rw [hops]; kernel_rfl) (by simp)).trans (hv 10 (by rw [hops]; kernel_rfl))
      refine wp_enter (f := 43) (args := #[V.o]) ?_ ((CopyInts_any wz V.o C.outputs (HIN wz hw).o HR.out.o).mono ?_)
      · simp [execOp, resolve, e1]; rfl
      · rintro e w' ⟨v', rfl, hown, hbel⟩
        exact ⟨v', rfl, hK v' w' hbel (own_base hown (HSZ wz hw)) trivial⟩
    | 12, _, ho =>
      simp only [List.getElem?_toArray, List.getElem?_cons_zero, List.getElem?_cons_succ, Option.some.injEq] at ho; subst ho
      refine webStep_of HB rfl (fun f aC wz hw hd ha hv hsp K hK => ?_)
      have e1 : aC.eval (.tmp 1) = .pointer (some ⟨w.heap.size, 0, none⟩) := (ha 1 HND).trans rfl
      refine wp_val (v := .pointer (some ⟨w.heap.size, 4, none⟩)) (w' := wz) ?_ (hK _ _ (Below.refl _ _) rfl trivial)
      show ((do pure (Next.value (← Instr.fieldAt 29 (aC.eval (.tmp 1)) 4)) : Sem Next)).run Try.prog wz = _
      rw [e1]
      exact run_value (field_4 _ _)
    | 13, _, ho =>
      simp only [List.getElem?_toArray, List.getElem?_cons_zero, List.getElem?_cons_succ, Option.some.injEq] at ho; subst ho
      refine webStep_of HB rfl (fun f aC wz hw hd ha hv hsp K hK => ?_)
      have e1 : aC.eval (.tmp 15) = .pointer (some ⟨w.heap.size, 4, none⟩) := (hd 12 15 (by rw [hops]; kernel_rfl) (by rw [hops]; kernel_rfl) (by simp)).trans (hv 12 (by rw [hops]; kernel_rfl))
      refine wp_val (v := V.b) (w' := wz) ?_ (hK _ _ (Below.refl _ _) rfl trivial)
      show ((do pure (Next.value (← Instr.loadAt 22 (aC.eval (.tmp 15)))) : Sem Next)).run Try.prog wz = _
      rw [e1]
      exact run_value (load_at _ load_I (HCELL wz hw 4))
    | 14, _, ho =>
      simp only [List.getElem?_toArray, List.getElem?_cons_zero, List.getElem?_cons_succ, Option.some.injEq] at ho; subst ho
      refine webStep_of HB rfl (fun f aC wz hw hd ha hv hsp K hK => ?_)
      have e1 : aC.eval (.tmp 16) = V.b := (hd 13 16 (by rw [hops]; kernel_rfl) (by rw [hops]; kernel_rfl) (by simp)).trans (hv 13 (by rw [hops]; kernel_rfl))
      refine wp_enter (f := 43) (args := #[V.b]) ?_ ((CopyInts_any wz V.b C.bads (HIN wz hw).b HR.out.b).mono ?_)
      · simp [execOp, resolve, e1]; rfl
      · rintro e w' ⟨v', rfl, hown, hbel⟩
        exact ⟨v', rfl, hK v' w' hbel (own_base hown (HSZ wz hw)) trivial⟩
    | 15, _, ho =>
      simp only [List.getElem?_toArray, List.getElem?_cons_zero, List.getElem?_cons_succ, Option.some.injEq] at ho; subst ho
      refine webStep_of HB rfl (fun f aC wz hw hd ha hv hsp K hK => ?_)
      have e1 : aC.eval (.tmp 1) = .pointer (some ⟨w.heap.size, 0, none⟩) := (ha 1 HND).trans rfl
      refine wp_val (v := .pointer (some ⟨w.heap.size, 5, none⟩)) (w' := wz) ?_ (hK _ _ (Below.refl _ _) rfl trivial)
      show ((do pure (Next.value (← Instr.fieldAt 29 (aC.eval (.tmp 1)) 5)) : Sem Next)).run Try.prog wz = _
      rw [e1]
      exact run_value (field_5 _ _)
    | 16, _, ho =>
      simp only [List.getElem?_toArray, List.getElem?_cons_zero, List.getElem?_cons_succ, Option.some.injEq] at ho; subst ho
      refine webStep_of HB rfl (fun f aC wz hw hd ha hv hsp K hK => ?_)
      have e1 : aC.eval (.tmp 18) = .pointer (some ⟨w.heap.size, 5, none⟩) := (hd 15 18 (by rw [hops]; kernel_rfl) (by rw [hops]; kernel_rfl) (by simp)).trans (hv 15 (by rw [hops]; kernel_rfl))
      refine wp_val (v := V.c) (w' := wz) ?_ (hK _ _ (Below.refl _ _) rfl trivial)
      show ((do pure (Next.value (← Instr.loadAt 22 (aC.eval (.tmp 18)))) : Sem Next)).run Try.prog wz = _
      rw [e1]
      exact run_value (load_at _ load_I (HCELL wz hw 5))
    | 17, _, ho =>
      simp only [List.getElem?_toArray, List.getElem?_cons_zero, List.getElem?_cons_succ, Option.some.injEq] at ho; subst ho
      refine webStep_of HB rfl (fun f aC wz hw hd ha hv hsp K hK => ?_)
      have e1 : aC.eval (.tmp 19) = V.c := (hd 16 19 (by rw [hops]; kernel_rfl) (by rw [hops]; kernel_rfl) (by simp)).trans (hv 16 (by rw [hops]; kernel_rfl))
      refine wp_enter (f := 43) (args := #[V.c]) ?_ ((CopyInts_any wz V.c C.constraints (HIN wz hw).c HR.out.c).mono ?_)
      · simp [execOp, resolve, e1]; rfl
      · rintro e w' ⟨v', rfl, hown, hbel⟩
        exact ⟨v', rfl, hK v' w' hbel (own_base hown (HSZ wz hw)) trivial⟩
    | 18, _, ho =>
      simp only [List.getElem?_toArray, List.getElem?_cons_zero, List.getElem?_cons_succ, Option.some.injEq] at ho; subst ho
      refine webStep_of HB rfl (fun f aC wz hw hd ha hv hsp K hK => ?_)
      have e1 : aC.eval (.tmp 1) = .pointer (some ⟨w.heap.size, 0, none⟩) := (ha 1 HND).trans rfl
      refine wp_val (v := .pointer (some ⟨w.heap.size, 6, none⟩)) (w' := wz) ?_ (hK _ _ (Below.refl _ _) rfl trivial)
      show ((do pure (Next.value (← Instr.fieldAt 29 (aC.eval (.tmp 1)) 6)) : Sem Next)).run Try.prog wz = _
      rw [e1]
      exact run_value (field_6 _ _)
    | 19, _, ho =>
      simp only [List.getElem?_toArray, List.getElem?_cons_zero, List.getElem?_cons_succ, Option.some.injEq] at ho; subst ho
      refine webStep_of HB rfl (fun f aC wz hw hd ha hv hsp K hK => ?_)
      have e1 : aC.eval (.tmp 21) = .pointer (some ⟨w.heap.size, 6, none⟩) := (hd 18 21 (by rw [hops]; kernel_rfl) (by rw [hops]; kernel_rfl) (by simp)).trans (hv 18 (by rw [hops]; kernel_rfl))
      refine wp_val (v := V.j) (w' := wz) ?_ (hK _ _ (Below.refl _ _) rfl trivial)
      show ((do pure (Next.value (← Instr.loadAt 24 (aC.eval (.tmp 21)))) : Sem Next)).run Try.prog wz = _
      rw [e1]
      exact run_value (load_at _ load_V (HCELL wz hw 6))
    | 20, _, ho =>
      simp only [List.getElem?_toArray, List.getElem?_cons_zero, List.getElem?_cons_succ, Option.some.injEq] at ho; subst ho
      refine webStep_of HB rfl (fun f aC wz hw hd ha hv hsp K hK => ?_)
      have e1 : aC.eval (.tmp 22) = V.j := (hd 19 22 (by rw [hops]; kernel_rfl) (by rw [hops]; kernel_rfl) (by simp)).trans (hv 19 (by rw [hops]; kernel_rfl))
      refine wp_enter (f := 83) (args := #[V.j]) ?_ ((CopyLists_any wz V.j C.justice (HIN wz hw).j HR.out.j HR.out.js).mono ?_)
      · simp [execOp, resolve, e1]; rfl
      · rintro e w' ⟨v', us, rfl, hj, hbel⟩
        exact ⟨v', rfl, hK v' w' hbel ⟨us, hj.base (HSZ wz hw)⟩ trivial⟩
    | 21, _, ho =>
      simp only [List.getElem?_toArray, List.getElem?_cons_zero, List.getElem?_cons_succ, Option.some.injEq] at ho; subst ho
      refine webStep_of HB rfl (fun f aC wz hw hd ha hv hsp K hK => ?_)
      have e1 : aC.eval (.tmp 1) = .pointer (some ⟨w.heap.size, 0, none⟩) := (ha 1 HND).trans rfl
      refine wp_val (v := .pointer (some ⟨w.heap.size, 7, none⟩)) (w' := wz) ?_ (hK _ _ (Below.refl _ _) rfl trivial)
      show ((do pure (Next.value (← Instr.fieldAt 29 (aC.eval (.tmp 1)) 7)) : Sem Next)).run Try.prog wz = _
      rw [e1]
      exact run_value (field_7 _ _)
    | 22, _, ho =>
      simp only [List.getElem?_toArray, List.getElem?_cons_zero, List.getElem?_cons_succ, Option.some.injEq] at ho; subst ho
      refine webStep_of HB rfl (fun f aC wz hw hd ha hv hsp K hK => ?_)
      have e1 : aC.eval (.tmp 24) = .pointer (some ⟨w.heap.size, 7, none⟩) := (hd 21 24 (by rw [hops]; kernel_rfl) (by rw [hops]; kernel_rfl) (by simp)).trans (hv 21 (by rw [hops]; kernel_rfl))
      refine wp_val (v := V.f) (w' := wz) ?_ (hK _ _ (Below.refl _ _) rfl trivial)
      show ((do pure (Next.value (← Instr.loadAt 22 (aC.eval (.tmp 24)))) : Sem Next)).run Try.prog wz = _
      rw [e1]
      exact run_value (load_at _ load_I (HCELL wz hw 7))
    | 23, _, ho =>
      simp only [List.getElem?_toArray, List.getElem?_cons_zero, List.getElem?_cons_succ, Option.some.injEq] at ho; subst ho
      refine webStep_of HB rfl (fun f aC wz hw hd ha hv hsp K hK => ?_)
      have e1 : aC.eval (.tmp 25) = V.f := (hd 22 25 (by rw [hops]; kernel_rfl) (by rw [hops]; kernel_rfl) (by simp)).trans (hv 22 (by rw [hops]; kernel_rfl))
      refine wp_enter (f := 43) (args := #[V.f]) ?_ ((CopyInts_any wz V.f C.fairness (HIN wz hw).f HR.out.f).mono ?_)
      · simp [execOp, resolve, e1]; rfl
      · rintro e w' ⟨v', rfl, hown, hbel⟩
        exact ⟨v', rfl, hK v' w' hbel (own_base hown (HSZ wz hw)) trivial⟩
    | 24, _, ho =>
      simp only [List.getElem?_toArray, List.getElem?_cons_zero, List.getElem?_cons_succ, Option.some.injEq] at ho; subst ho
      refine webStep_of HB rfl (fun f aC wz hw hd ha hv hsp K hK => ?_)
      refine wp_val (v := .slice (some ⟨wz.heap.size, 0, none⟩) 0 0) (w' := wz.alloc (.cells #[] 68)) ?_ (hK _ _ ((Below.refl _ _).alloc (Nat.le_refl _) _) ⟨_, rfl, HSZ wz hw, Blk.new _ _ _⟩ trivial)
      simp only [execOp, List.map_toArray, List.map_nil]
      exact run_value (new_A wz)
    | 25, _, ho =>
      simp only [List.getElem?_toArray, List.getElem?_cons_zero, List.getElem?_cons_succ, Option.some.injEq] at ho; subst ho
      refine webStep_of HB rfl (fun f aC wz hw hd ha hv hsp K hK => ?_)
      have e1 : aC.eval (.tmp 1) = .pointer (some ⟨w.heap.size, 0, none⟩) := (ha 1 HND).trans rfl
      refine wp_val (v := .pointer (some ⟨w.heap.size, 8, none⟩)) (w' := wz) ?_ (hK _ _ (Below.refl _ _) rfl trivial)
      show ((do pure (Next.value (← Instr.fieldAt 29 (aC.eval (.tmp 1)) 8)) : Sem Next)).run Try.prog wz = _
      rw [e1]
      exact run_value (field_8 _ _)
    | 26, _, ho =>
      simp only [List.getElem?_toArray, List.getElem?_cons_zero, List.getElem?_cons_succ, Option.some.injEq] at ho; subst ho
      refine webStep_of HB rfl (fun f aC wz hw hd ha hv hsp K hK => ?_)
      have e1 : aC.eval (.tmp 28) = .pointer (some ⟨w.heap.size, 8, none⟩) := (hd 25 28 (by rw [hops]; kernel_rfl) (by rw [hops]; kernel_rfl) (by simp)).trans (hv 25 (by rw [hops]; kernel_rfl))
      refine wp_val (v := V.a) (w' := wz) ?_ (hK _ _ (Below.refl _ _) rfl trivial)
      show ((do pure (Next.value (← Instr.loadAt 25 (aC.eval (.tmp 28)))) : Sem Next)).run Try.prog wz = _
      rw [e1]
      exact run_value (load_at _ load_A (HCELL wz hw 8))
    | 27, _, ho =>
      simp only [List.getElem?_toArray, List.getElem?_cons_zero, List.getElem?_cons_succ, Option.some.injEq] at ho; subst ho
      refine webStep_of HB rfl (fun f aC wz hw hd ha hv hsp K hK => ?_)
      have e1 := hd 24 27 (by rw [hops]; kernel_rfl) (by rw [hops]; kernel_rfl) (by simp)
      have e2 : aC.eval (.tmp 29) = V.a := (hd 26 29 (by rw [hops]; kernel_rfl) (by rw [hops]; kernel_rfl) (by simp)).trans (hv 26 (by rw [hops]; kernel_rfl))
      obtain ⟨g, eg, hgB, hgb⟩ : ∃ g, f 24 = .slice (some ⟨g, 0, none⟩) 0 0 ∧ w.heap.size ≤ g ∧ Blk wz g 68 #[] := hv 24 (by rw [hops]; kernel_rfl)
      obtain ⟨A, c, eA, hrd⟩ := (HIN wz hw).a.reads lenT (by omega)
      refine wp_append_fresh (.tmp 27) (.tmp 29) _ rfl w.heap.size 68 iA _ 3 24 Try.underlying25 hiA hA0 hA1 hA2 rfl (by omega) g (e1.trans eg) hgb hgB wz.heap.size A C.ands.length c (C.ands.flatMap encT) (e2.trans eA) hrd (flat_one oneT _) (by have := HR.out.a; simp only [maxLen]; omega) HR.out.a (HSZ wz hw) ?_
      exact fun v' w' hown hbel => hK v' w' hbel hown trivial
    | 28, _, ho =>
      simp only [List.getElem?_toArray, List.getElem?_cons_zero, List.getElem?_cons_succ, Option.some.injEq] at ho; subst ho
      refine webStep_of HB rfl (fun f aC wz hw hd ha hv hsp K hK => ?_)
      refine wp_val (v := .slice (some ⟨wz.heap.size, 0, none⟩) 0 0) (w' := wz.alloc (.cells #[] 155)) ?_ (hK _ _ ((Below.refl _ _).alloc (Nat.le_refl _) _) ⟨_, rfl, HSZ wz hw, Blk.new _ _ _⟩ trivial)
      simp only [execOp, List.map_toArray, List.map_nil]
      exact run_value (new_S wz)
    | 29, _, ho =>
      simp only [List.getElem?_toArray, List.getElem?_cons_zero, List.getElem?_cons_succ, Option.some.injEq] at ho; subst ho
      refine webStep_of HB rfl (fun f aC wz hw hd ha hv hsp K hK => ?_)
      have e1 : aC.eval (.tmp 1) = .pointer (some ⟨w.heap.size, 0, none⟩) := (ha 1 HND).trans rfl
      refine wp_val (v := .pointer (some ⟨w.heap.size, 9, none⟩)) (w' := wz) ?_ (hK _ _ (Below.refl _ _) rfl trivial)
      show ((do pure (Next.value (← Instr.fieldAt 29 (aC.eval (.tmp 1)) 9)) : Sem Next)).run Try.prog wz = _
      rw [e1]
      exact run_value (field_9 _ _)
    | 30, _, ho =>
      simp only [List.getElem?_toArray, List.getElem?_cons_zero, List.getElem?_cons_succ, Option.some.injEq] at ho; subst ho
      refine webStep_of HB rfl (fun f aC wz hw hd ha hv hsp K hK => ?_)
      have e1 : aC.eval (.tmp 32) = .pointer (some ⟨w.heap.size, 9, none⟩) := (hd 29 32 (by rw [hops]; kernel_rfl) (by rw [hops]; kernel_rfl) (by simp)).trans (hv 29 (by rw [hops]; kernel_rfl))
      refine wp_val (v := V.s) (w' := wz) ?_ (hK _ _ (Below.refl _ _) rfl trivial)
      show ((do pure (Next.value (← Instr.loadAt 26 (aC.eval (.tmp 32)))) : Sem Next)).run Try.prog wz = _
      rw [e1]
      exact run_value (load_at _ load_S (HCELL wz hw 9))
    | 31, _, ho =>
      simp only [List.getElem?_toArray, List.getElem?_cons_zero, List.getElem?_cons_succ, Option.some.injEq] at ho; subst ho
      refine webStep_of HB rfl (fun f aC wz hw hd ha hv hsp K hK => ?_)
      have e1 := hd 28 31 (by rw [hops]; kernel_rfl) (by rw [hops]; kernel_rfl) (by simp)
      have e2 : aC.eval (.tmp 33) = V.s := (hd 30 33 (by rw [hops]; kernel_rfl) (by rw [hops]; kernel_rfl) (by simp)).trans (hv 30 (by rw [hops]; kernel_rfl))
      obtain ⟨g, eg, hgB, hgb⟩ : ∃ g, f 28 = .slice (some ⟨g, 0, none⟩) 0 0 ∧ w.heap.size ≤ g ∧ Blk wz g 155 #[] := hv 28 (by rw [hops]; kernel_rfl)
      obtain ⟨A, c, eA, hrd⟩ := (HIN wz hw).s.reads lenS (by omega)
      refine wp_append_fresh (.tmp 31) (.tmp 33) _ rfl w.heap.size 155 iS _ 3 32 Try.underlying26 hiS hS0 hS1 hS2 rfl (by omega) g (e1.trans eg) hgb hgB wz.heap.size A C.symbols.length c (C.symbols.flatMap encS) (e2.trans eA) hrd (flat_one oneS _) (by have := HR.out.s; simp only [maxLen]; omega) HR.out.s (HSZ wz hw) ?_
      exact fun v' w' hown hbel => hK v' w' hbel hown trivial
    | 32, _, ho =>
      simp only [List.getElem?_toArray, List.getElem?_cons_zero, List.getElem?_cons_succ, Option.some.injEq] at ho; subst ho
      refine webStep_of HB rfl (fun f aC wz hw hd ha hv hsp K hK => ?_)
      refine wp_val (v := .slice (some ⟨wz.heap.size, 0, none⟩) 0 0) (w' := wz.alloc (.cells #[] 9)) ?_ (hK _ _ ((Below.refl _ _).alloc (Nat.le_refl _) _) ⟨_, rfl, HSZ wz hw, Blk.new _ _ _⟩ trivial)
      simp only [execOp, List.map_toArray, List.map_nil]
      exact run_value (new_B wz)
    | 33, _, ho =>
      simp only [List.getElem?_toArray, List.getElem?_cons_zero, List.getElem?_cons_succ, Option.some.injEq] at ho; subst ho
      refine webStep_of HB rfl (fun f aC wz hw hd ha hv hsp K hK => ?_)
      have e1 : aC.eval (.tmp 1) = .pointer (some ⟨w.heap.size, 0, none⟩) := (ha 1 HND).trans rfl
      refine wp_val (v := .pointer (some ⟨w.heap.size, 10, none⟩)) (w' := wz) ?_ (hK _ _ (Below.refl _ _) rfl trivial)
      show ((do pure (Next.value (← Instr.fieldAt 29 (aC.eval (.tmp 1)) 10)) : Sem Next)).run Try.prog wz = _
      rw [e1]
      exact run_value (field_10 _ _)
    | 34, _, ho =>
      simp only [List.getElem?_toArray, List.getElem?_cons_zero, List.getElem?_cons_succ, Option.some.injEq] at ho; subst ho
      refine webStep_of HB rfl (fun f aC wz hw hd ha hv hsp K hK => ?_)
      have e1 : aC.eval (.tmp 36) = .pointer (some ⟨w.heap.size, 10, none⟩) := (hd 33 36 (by rw [hops]; kernel_rfl) (by rw [hops]; kernel_rfl) (by simp)).trans (hv 33 (by rw [hops]; kernel_rfl))
      refine wp_val (v := V.t) (w' := wz) ?_ (hK _ _ (Below.refl _ _) rfl trivial)
      show ((do pure (Next.value (← Instr.loadAt 27 (aC.eval (.tmp 36)))) : Sem Next)).run Try.prog wz = _
      rw [e1]
      exact run_value (load_at _ load_B (HCELL wz hw 10))
    | 35, _, ho =>
      simp only [List.getElem?_toArray, List.getElem?_cons_zero, List.getElem?_cons_succ, Option.some.injEq] at ho; subst ho
      refine webStep_of HB rfl (fun f aC wz hw hd ha hv hsp K hK => ?_)
      have e1 := hd 32 35 (by rw [hops]; kernel_rfl) (by rw [hops]; kernel_rfl) (by simp)
      have e2 : aC.eval (.tmp 37) = V.t := (hd 34 37 (by rw [hops]; kernel_rfl) (by rw [hops]; kernel_rfl) (by simp)).trans (hv 34 (by rw [hops]; kernel_rfl))
      obtain ⟨g, eg, hgB, hgb⟩ : ∃ g, f 32 = .slice (some ⟨g, 0, none⟩) 0 0 ∧ w.heap.size ≤ g ∧ Blk wz g 9 #[] := hv 32 (by rw [hops]; kernel_rfl)
      obtain ⟨A, c, eA, hrd⟩ := (HIN wz hw).t.reads lenB (by omega)
      refine wp_append_fresh (.tmp 35) (.tmp 37) _ rfl w.heap.size 9 iB _ 1 16 Try.underlying27 hiB hB0 hB1 hB2 rfl (by omega) g (e1.trans eg) hgb hgB wz.heap.size A C.comments.length c (C.comments.flatMap encB) (e2.trans eA) hrd (flat_one oneB _) (by have := HR.out.t; simp only [maxLen]; omega) HR.out.t (HSZ wz hw) ?_
      exact fun v' w' hown hbel => hK v' w' hbel hown trivial
    | 36, _, ho =>
      simp only [List.getElem?_toArray, List.getElem?_cons_zero, List.getElem?_cons_succ, Option.some.injEq] at ho; subst ho
      refine webStep_of HB rfl (fun f aC wz hw hd ha hv hsp K hK => ?_)
      have em : aC.eval (.tmp 4) = .int .i64 C.max := (hd 1 4 (by rw [hops]; kernel_rfl) (by rw [hops]; kernel_rfl) (by simp)).trans (hv 1 (by rw [hops]; kernel_rfl))
      have xi := hd 4 7 (by rw [hops]; kernel_rfl) (by rw [hops]; kernel_rfl) (by simp)
      have ri : wz.ownsRow w.heap.size 3 1 (f 4) C.inputs.length (C.inputs.flatMap encI) := hv 4 (by rw [hops]; kernel_rfl)
      obtain ⟨Ai, ci, si⟩ := own_slice_k ri
      have xl := hd 8 11 (by rw [hops]; kernel_rfl) (by rw [hops]; kernel_rfl) (by simp)
      have rl : wz.ownsRow w.heap.size 70 3 (f 8) C.latches.length (C.latches.flatMap encT) := hv 8 (by rw [hops]; kernel_rfl)
      obtain ⟨Al, cl, sl⟩ := own_slice_k rl
      have xo := hd 11 14 (by rw [hops]; kernel_rfl) (by rw [hops]; kernel_rfl) (by simp)
      have ro : wz.ownsRow w.heap.size 3 1 (f 11) C.outputs.length (C.outputs.flatMap encI) := hv 11 (by rw [hops]; kernel_rfl)
      obtain ⟨Ao, co, so⟩ := own_slice_k ro
      have xb := hd 14 17 (by rw [hops]; kernel_rfl) (by rw [hops]; kernel_rfl) (by simp)
      have rb : wz.ownsRow w.heap.size 3 1 (f 14) C.bads.length (C.bads.flatMap encI) := hv 14 (by rw [hops]; kernel_rfl)
      obtain ⟨Ab, cb, sb⟩ := own_slice_k rb
      have xc := hd 17 20 (by rw [hops]; kernel_rfl) (by rw [hops]; kernel_rfl) (by simp)
      have rc : wz.ownsRow w.heap.size 3 1 (f 17) C.constraints.length (C.constraints.flatMap encI) := hv 17 (by rw [hops]; kernel_rfl)
      obtain ⟨Ac, cc, sc⟩ := own_slice_k rc
      have xj := hd 20 23 (by rw [hops]; kernel_rfl) (by rw [hops]; kernel_rfl) (by simp)
      obtain ⟨us, rj⟩ : ∃ us, JRow wz w.heap.size (f 20) us C.justice := hv 20 (by rw [hops]; kernel_rfl)
      obtain ⟨Aj, cj, sj⟩ := own_slice_k rj.own
      have xf := hd 23 26 (by rw [hops]; kernel_rfl) (by rw [hops]; kernel_rfl) (by simp)
      have rf : wz.ownsRow w.heap.size 3 1 (f 23) C.fairness.length (C.fairness.flatMap encI) := hv 23 (by rw [hops]; kernel_rfl)
      obtain ⟨Af, cf, sf⟩ := own_slice_k rf
      have xa := hd 27 30 (by rw [hops]; kernel_rfl) (by rw [hops]; kernel_rfl) (by simp)
      have ra : wz.ownsRow w.heap.size 68 3 (f 27) C.ands.length (C.ands.flatMap encT) := hv 27 (by rw [hops]; kernel_rfl)
      obtain ⟨Aa, ca, sa⟩ := own_slice_k ra
      have xs := hd 31 34 (by rw [hops]; kernel_rfl) (by rw [hops]; kernel_rfl) (by simp)
      have rs : wz.ownsRow w.heap.size 155 3 (f 31) C.symbols.length (C.symbols.flatMap encS) := hv 31 (by rw [hops]; kernel_rfl)
      obtain ⟨As, cs, ss⟩ := own_slice_k rs
      have xt := hd 35 38 (by rw [hops]; kernel_rfl) (by rw [hops]; kernel_rfl) (by simp)
      have rt : wz.ownsRow w.heap.size 9 1 (f 35) C.comments.length (C.comments.flatMap encB) := hv 35 (by rw [hops]; kernel_rfl)
      obtain ⟨At, ct, st⟩ := own_slice_k rt
      refine wp_val (v := CV.val ⟨f 4, f 8, f 11, f 14, f 17, f 20, f 23, f 27, f 31, f 35⟩ C.max) (w' := wz) ?_ (hK _ _ (Below.refl _ _) ⟨⟨f 4, f 8, f 11, f 14, f 17, f 20, f 23, f 27, f 31, f 35⟩, us, rfl, ⟨ri, rl, ro, rb, rc, rj, rf, ra, rs, rt⟩⟩ trivial)
      simp only [execOp, List.map_toArray, List.map_cons, List.map_nil, em, xi, xl, xo, xb, xc, xj, xf, xa, xs, xt]
      rw [si, sl, so, sb, sc, sj, sf, sa, ss, st]
      exact run_value (build_circ _ _ _ _ _ _ _ _ _ _ _ _ _ _ _ _ _ _ _ _ _ _ _ _ _ _ _ _ _ _ _ _)
    | n + 37, h, _ => exact absurd h (by omega)
  · intro f wz hw hv hsp
    rw [← hw0] at hw
    obtain ⟨V', us, e36, hc⟩ : ∃ (V' : CV) (us : List Value), f 36 = V'.val C.max ∧ CopB wz w.heap.size C us V' := hv 36 (by omega)
    have e : putAll ops f (List.range 37) ({ tmps := #[V.val C.max, .pointer (some ⟨w.heap.size, 0, none⟩), .pointer (some ⟨w.heap.size + 1, 0, none⟩), undef, undef, undef, undef, undef, undef, undef, undef, undef, undef, undef, undef, undef, undef, undef, undef, undef, undef, undef, undef, undef, undef, undef, undef, undef, undef, undef, undef, undef, undef, undef, undef, undef, undef, undef, undef, undef], defers := [] } : Act) = ({ tmps := #[V.val C.max, .pointer (some ⟨w.heap.size, 0, none⟩), .pointer (some ⟨w.heap.size + 1, 0, none⟩), f 0, f 1, f 2, f 3, f 4, f 5, f 6, f 7, f 8, f 9, f 10, f 11, f 12, f 13, f 14, f 15, f 16, f 17, f 18, f 19, f 20, f 21, f 22, f 23, f 24, f 25, f 26, f 27, f 28, f 29, f 30, f 31, f 32, f 33, f 34, f 35, f 36], defers := [] } : Act) := by rw [hops]; kernel_rfl
    rw [e]
    clear e
    have hone : (V'.cells C.max).all (·.oneCell') = true := by
      obtain ⟨_, _, e0⟩ := own_slice_k hc.i
      obtain ⟨_, _, e1⟩ := own_slice_k hc.l
      obtain ⟨_, _, e2⟩ := own_slice_k hc.o
      obtain ⟨_, _, e3⟩ := own_slice_k hc.b
      obtain ⟨_, _, e4⟩ := own_slice_k hc.c
      obtain ⟨_, _, e5⟩ := own_slice_k hc.j.own
      obtain ⟨_, _, e6⟩ := own_slice_k hc.f
      obtain ⟨_, _, e7⟩ := own_slice_k hc.a
      obtain ⟨_, _, e8⟩ := own_slice_k hc.s
      obtain ⟨_, _, e9⟩ := own_slice_k hc.t
      simp only [CV.cells]
      rw [e0, e1, e2, e3, e4, e5, e6, e7, e8, e9]
      simp [Value.oneCell']
    have hblk : Blk wz (w.heap.size + 1) 29 #[.int .i64 0, .slice none 0 0, .slice none 0 0, .slice none 0 0, .slice none 0 0, .slice none 0 0, .slice none 0 0, .slice none 0 0, .slice none 0 0, .slice none 0 0, .slice none 0 0] := by
      have h1 : Blk w0 (w.heap.size + 1) 29 #[.int .i64 0, .slice none 0 0, .slice none 0 0, .slice none 0 0, .slice none 0 0, .slice none 0 0, .slice none 0 0, .slice none 0 0, .slice none 0 0, .slice none 0 0, .slice none 0 0] := by
        rw [hw0]
        have := Blk.new (w.alloc (.cells (V.cells C.max) 29)) 29 #[.int .i64 0, .slice none 0 0, .slice none 0 0, .slice none 0 0, .slice none 0 0, .slice none 0 0, .slice none 0 0, .slice none 0 0, .slice none 0 0, .slice none 0 0, .slice none 0 0]
        simp only [alloc_size] at this
        exact this.drew
      exact h1.below hw h1.lt
    have ho37 : ∃ o, ops[37]? = some o ∧ o.guard = none ∧ o.op = .store 29 (.tmp 2) (.tmp 39) ∧ o.dst = none := by rw [hops]; exact ⟨_, rfl, rfl, rfl, rfl⟩
    obtain ⟨o, ho1, ho2, ho3, ho4⟩ := ho37
    refine wpOp_of ho1 ho2 ?_
    refine wp_store_row 29 (.tmp 2) (.tmp 39) ho3 (w.heap.size + 1) (V'.cells C.max) (by rfl) (by exact e36) 29 _ hblk (by kernel_rfl) rfl hone ?_
    rw [ho4]
    clear ho1 ho2 ho3 ho4 hops HBA HB HND
    obtain ⟨w3, hw3⟩ : ∃ w3, w3 = wz.setRow (w.heap.size + 1) (V'.cells C.max) := ⟨_, rfl⟩
    rw [← hw3]
    have hb3 : Blk w3 (w.heap.size + 1) 29 (V'.cells C.max) := by rw [hw3]; exact setRow_heap wz (w.heap.size + 1) _ (V'.cells C.max) _ _ hblk
    have hoth : ∀ k, k ≠ w.heap.size + 1 → w3.heap[k]? = wz.heap[k]? := fun k hk => by
      rw [hw3]
      simp only [World.setRow, Array.getElem?_modify]
      rw [if_neg (fun e => hk e.symm)]
    have hsz3 : w3.heap.size = wz.heap.size := by rw [hw3]; simp
    have hne : ∀ {t : TypeId} {k n : Nat} {v : Value} {xs : List Value}, wz.ownsRow w.heap.size t k v n xs → t ≠ 29 → w3.ownsRow w.heap.size t k v n xs := fun ho ht =>
      own_of_block ho fun g hg => hoth g (fun e => own_blk_ne ho hblk ht (by rw [hg, e]))
    have hc3 : CopB w3 w.heap.size C us V' := ⟨hne hc.i (by decide), hne hc.l (by decide), hne hc.o (by decide), hne hc.b (by decide), hne hc.c (by decide), ⟨hc.j.ul, hne hc.j.own (by decide), fun i u zs hu hz => hne (hc.j.each i u zs hu hz) (by decide)⟩, hne hc.f (by decide), hne hc.a (by decide), hne hc.s (by decide), hne hc.t (by decide)⟩
    have hbel : Below w.heap.size w w3 := by
      have h1 := bt hb0 (by omega) (hw.mono (Nat.le_refl _))
      exact ⟨by rw [hw3]; exact h1.os, by rw [hw3]; exact h1.tape, by rw [hw3]; exact h1.output, by rw [hsz3]; exact h1.size, fun k hk => (hoth k (by omega)).trans (h1.block k hk)⟩
    have HC3 := Lib.hid hc3
    have HBL := Lib.hid hbel
    have HB3 := Lib.hid hb3
    clear hw3 hsz3 hne hoth hc3 hbel hb3 hv hsp hblk hc hone hw HCELL HIN HSZ hx0 hb0 hs0 hw0
    go_wp2
    refine bodyPost_ret (results_cell_row (fn := Try.f42) rfl _ _ (w.heap.size + 1) 29 (V'.cells C.max) (0, 0) _ rfl HB3.out Try.underlying29 rfl (by kernel_rfl)) rfl ?_
    exact ⟨V', us, rfl, HBL.out, HC3.out⟩
end Go.Proofs.Ytdodhbfplglbkaa

namespace Go.Proofs.Ytdodhbfplglbkaa
open Go.RowKit

theorem wp_store_slice {o : Oper} {a : Act} {w : World} {K : Act → World → Prop} {Q : Exit → Act → World → Prop} (x y : Operand) (ho : o.op = .store 22 x y) (b k : Nat) (A : Option Addr) (n c : Nat) (hx : a.eval x = .pointer (some ⟨b, k, none⟩)) (hy : a.eval y = .slice A n c)
    (u : Value) (hc : w.cell? ⟨b, k, none⟩ = some u) (hf : w.frozen? ⟨b, k, none⟩ = false) (h : K (a.put o.dst undef) (w.setCell ⟨b, k, none⟩ (.slice A n c))) : o.wp Try.prog a w K Q := by
  unfold Oper.wp execOp
  simp only [ho, hx, hy]
  simp [go_sem, hc, hf]
  exact h
def pick5 (C : Circ) (k : Nat) : Option (List Int) := if k = 1 then some C.inputs else if k = 3 then some C.outputs else if k = 4 then some C.bads else if k = 5 then some C.constraints else if k = 7 then some C.fairness else none
def GoodC (w : World) (B : Nat) (C : Circ) (k : Nat) (u : Value) : Prop := ∃ zs, pick5 C k = some zs ∧ Lent w B u zs
/-- From one world to another: but for the box nothing turns, and in the box what turns is a list that was lent. -/
structure StoG (B b : Nat) (C : Circ) (w1 w2 : World) : Prop where
  grown : w1.grownBy w2 (some b)
  box : ∀ cs, Blk w1 b 29 cs → ∃ cs', Blk w2 b 29 cs' ∧ cs'.size = cs.size ∧ ∀ k, cs'[k]? = cs[k]? ∨ ∃ u, cs'[k]? = some u ∧ GoodC w2 B C k u
theorem lent_on {w1 w2 : World} {B b : Nat} {v : Value} {zs : List Int} {cs : Array Value} (h : Lent w1 B v zs) (hb : Blk w1 b 29 cs) (hg : w1.grownBy w2 (some b)) : Lent w2 B v zs := by
  obtain ⟨g, cap, cur, rfl, hB, hgg, h⟩ := h
  have hne : g ≠ b := fun e => by
    subst e
    have h2 : w1.heap[g]? = some (.cells cs 29 (0, 0)) := hb
    rw [hgg] at h2
    injection h2 with h2
    injection h2 with _ h2 _
    exact absurd h2 (by decide)
  exact ⟨g, cap, cur, rfl, hB, (hg.block g (Array.getElem?_eq_some_iff.1 hgg).1 (fun e => hne (by injection e))).trans hgg, h⟩
theorem StoG.refl (B b : Nat) (C : Circ) (w : World) : StoG B b C w w := ⟨World.grownBy.refl w _, fun cs h => ⟨cs, h, rfl, fun _k => .inl rfl⟩⟩
theorem grown_transB {w1 w2 w3 : World} {b : Nat} (h1 : w1.grownBy w2 (some b)) (h2 : w2.grownBy w3 (some b)) : w1.grownBy w3 (some b) :=
  ⟨h2.os.trans h1.os, h2.tape.trans h1.tape, h2.output.trans h1.output, Nat.le_trans h1.size h2.size, fun k hk hne => (h2.block k (Nat.lt_of_lt_of_le hk h1.size) hne).trans (h1.block k hk hne)⟩
theorem StoG.trans {B b : Nat} {C : Circ} {w1 w2 w3 : World} (h1 : StoG B b C w1 w2) (h2 : StoG B b C w2 w3) : StoG B b C w1 w3 := by
  refine ⟨grown_transB h1.grown h2.grown, fun cs hcs => ?_⟩
  obtain ⟨cs', a1, a2, a3⟩ := h1.box cs hcs
  obtain ⟨cs'', c1, c2, c3⟩ := h2.box cs' a1
  refine ⟨cs'', c1, c2.trans a2, fun k => ?_⟩
  rcases c3 k with e | e
  · rcases a3 k with e' | ⟨u, e', zs, hz, hl⟩
    · exact .inl (e.trans e')
    · exact .inr ⟨u, e.trans e', zs, hz, lent_on hl a1 h2.grown⟩
  · exact .inr e
theorem StoG.below {B b : Nat} {C : Circ} {w1 w2 : World} (h : Below w1.heap.size w1 w2) : StoG B b C w1 w2 :=
  ⟨⟨h.os, h.tape, h.output, h.size, fun k hk _ => h.block k hk⟩, fun cs hcs => ⟨cs, hcs.below h hcs.lt, rfl, fun _ => .inl rfl⟩⟩
theorem StoG.store {B b k : Nat} {C : Circ} {w : World} {v : Value} {zs : List Int} {cs : Array Value} (hb : Blk w b 29 cs) (hk : k < cs.size) (hz : pick5 C k = some zs) (hl : Lent w B v zs) : StoG B b C w (w.setCell ⟨b, k, none⟩ v) := by
  have hg : w.grownBy (w.setCell ⟨b, k, none⟩ v) (some b) := only_setL (World.grownBy.refl w _) k v
  refine ⟨hg, fun cs0 hcs0 => ?_⟩
  have e : cs0 = cs := by
    have h1 : w.heap[b]? = some (.cells cs0 29 (0, 0)) := hcs0
    have h2 : w.heap[b]? = some (.cells cs 29 (0, 0)) := hb
    rw [h1] at h2
    injection h2 with h2
    injection h2
  subst e
  refine ⟨_, Blk.set_ hb k v, by simp, fun j => ?_⟩
  by_cases hj : j = k
  · subst hj
    exact .inr ⟨v, by simp [hk], zs, hz, lent_on hl hb hg⟩
  · exact .inl (by simp [Ne.symm hj])
/-- What an operation's answer says. -/
def lentV (B b : Nat) (_C : Circ) (zs : List Int) (v : Value) (w : World) : Prop := (∃ cs, Blk w b 29 cs) ∧ Lent w B v zs
def putV (B b : Nat) (C : Circ) (k : Nat) (_ : Value) (w : World) : Prop := ∃ cs u, Blk w b 29 cs ∧ cs[k]? = some u ∧ GoodC w B C k u
theorem lentV_on {B b : Nat} {C : Circ} {zs : List Int} : ∀ (v : Value) (w1 w2 : World), StoG B b C w1 w2 → lentV B b C zs v w1 → lentV B b C zs v w2 := by
  rintro v w1 w2 hg ⟨⟨cs, hb⟩, hl⟩
  obtain ⟨cs', h1, _, _⟩ := hg.box cs hb
  exact ⟨⟨cs', h1⟩, lent_on hl hb hg.grown⟩
theorem putV_on {B b : Nat} {C : Circ} {k : Nat} : ∀ (v : Value) (w1 w2 : World), StoG B b C w1 w2 → putV B b C k v w1 → putV B b C k v w2 := by
  rintro v w1 w2 hg ⟨cs, u, hb, hu, zs, hz, hl⟩
  obtain ⟨cs', h1, _, h3⟩ := hg.box cs hb
  rcases h3 k with e | ⟨u', e, hgood⟩
  · exact ⟨cs', u, h1, e.trans hu, zs, hz, lent_on hl hb hg.grown⟩
  · exact ⟨cs', u', h1, e, hgood⟩
/-- v is a list zs of the call's own, with one thing (-77, 0, 0) behind its end. -/
def LentT (w : World) (B : Nat) (t : TypeId) (v : Value) (zs : List Tri) : Prop :=
  ∃ g cap cur, v = .slice (some ⟨g, 0, none⟩) zs.length cap ∧ B ≤ g ∧ w.heap[g]? = some (.cells cur t (0, 0)) ∧ zs.length + 1 ≤ cap ∧ cap ≤ maxLen ∧ cur.size = cap * 3 ∧ cur.toList.take ((zs.length + 1) * 3) = zs.flatMap encT ++ [.int .i64 (-77), .int .i64 0, .int .i64 0]
theorem LentT.below {w w' : World} {B : Nat} {t : TypeId} {v : Value} {zs : List Tri} (h : LentT w B t v zs) (hb : Below w.heap.size w w') : LentT w' B t v zs := by
  obtain ⟨g, cap, cur, rfl, hB, hg, h⟩ := h
  exact ⟨g, cap, cur, rfl, hB, (hb.block g (Array.getElem?_eq_some_iff.1 hg).1).trans hg, h⟩
theorem LentT.reads {w : World} {B : Nat} {t : TypeId} {v : Value} {zs : List Tri} (h : LentT w B t v zs) : RowE 3 encT w v zs := by
  obtain ⟨g, cap, cur, rfl, hb, hg, h1, h2, h3, h4⟩ := h
  refine ⟨_, cap, rfl, by omega, h2, fun i z hz => ⟨g, 0, rfl, (Array.getElem?_eq_some_iff.1 hg).1, fun j u hu => ?_⟩⟩
  have hi : i < zs.length := (List.getElem?_eq_some_iff.1 hz).1
  have hj : j < 3 := by have := (List.getElem?_eq_some_iff.1 hu).1; simpa using this
  have hl : (zs.flatMap encT).length = zs.length * 3 := flat_len lenT zs
  have e : cur.toList[i * 3 + j]? = (zs.flatMap encT ++ [Value.int .i64 (-77), .int .i64 0, .int .i64 0])[i * 3 + j]? := by rw [← h4, List.getElem?_take, if_pos (by omega)]
  rw [Nat.zero_add, cell_of_row w g _ cur _ _ hg, ← Array.getElem?_toList, e, List.getElem?_append_left (by omega), flat_get lenT zs i z hz j hj]
  exact hu
theorem LentT.mark {w : World} {B : Nat} {t : TypeId} {v : Value} {zs : List Tri} (h : LentT w B t v zs) : ∃ g cap, v = .slice (some ⟨g, 0, none⟩) zs.length cap ∧ zs.length + 1 ≤ cap ∧ cap ≤ maxLen ∧ B ≤ g ∧ g < w.heap.size ∧ w.cell? ⟨g, zs.length * 3, none⟩ = some (.int .i64 (-77)) ∧ w.cell? ⟨g, zs.length * 3 + 1, none⟩ = some (.int .i64 0) ∧ w.cell? ⟨g, zs.length * 3 + 2, none⟩ = some (.int .i64 0) := by
  obtain ⟨g, cap, cur, rfl, hb, hg, h1, h2, h3, h4⟩ := h
  have hl : (zs.flatMap encT).length = zs.length * 3 := flat_len lenT zs
  have e : ∀ j, j < 3 → w.cell? ⟨g, zs.length * 3 + j, none⟩ = [Value.int .i64 (-77), .int .i64 0, .int .i64 0][j]? := fun j hj => by
    have e : cur.toList[zs.length * 3 + j]? = (zs.flatMap encT ++ [Value.int .i64 (-77), .int .i64 0, .int .i64 0])[zs.length * 3 + j]? := by rw [← h4, List.getElem?_take, if_pos (by omega)]
    rw [cell_of_row w g _ cur _ _ hg, ← Array.getElem?_toList, e, List.getElem?_append_right (by omega), hl, Nat.add_sub_cancel_left]
  exact ⟨g, cap, rfl, h1, h2, hb, (Array.getElem?_eq_some_iff.1 hg).1, e 0 (by omega), e 1 (by omega), e 2 (by omega)⟩
/-- A circuit that was lent. -/
structure LentC (w : World) (B : Nat) (C : Circ) (us : List Value) (V : CV) : Prop where
  i : Lent w B V.i C.inputs
  l : LentT w B 70 V.l C.latches
  o : Lent w B V.o C.outputs
  b : Lent w B V.b C.bads
  c : Lent w B V.c C.constraints
  j : JRow w B V.j us C.justice
  f : Lent w B V.f C.fairness
  a : LentT w B 68 V.a C.ands
  s : w.ownsRow B 155 3 V.s C.symbols.length (C.symbols.flatMap encS)
  t : w.ownsRow B 9 1 V.t C.comments.length (C.comments.flatMap encB)
theorem LentC.below {w w' : World} {B : Nat} {C : Circ} {us : List Value} {V : CV} (h : LentC w B C us V) (hb : Below w.heap.size w w') : LentC w' B C us V :=
  ⟨h.i.below hb, h.l.below hb, h.o.below hb, h.b.below hb, h.c.below hb, h.j.below hb, h.f.below hb, h.a.below hb, own_below h.s hb, own_below h.t hb⟩
theorem LentC.in_ {w : World} {B : Nat} {C : Circ} {us : List Value} {V : CV} (h : LentC w B C us V) : C.In w V :=
  ⟨h.i.reads, h.l.reads, h.o.reads, h.b.reads, h.c.reads, h.j.lists, h.f.reads, h.a.reads, own_rowe lenS h.s, own_rowe lenB h.t⟩
end Go.Proofs.Ytdodhbfplglbkaa

namespace Go.Proofs.Ytdodhbfplglbkaa
open Go.RowKit

theorem own_form3 {w : World} {B n : Nat} {t : TypeId} {v : Value} {xs : List Value} (h : w.ownsRow B t 3 v n xs) (hn : 0 < n) :
    ∃ g cap cur, v = .slice (some ⟨g, 0, none⟩) n cap ∧ B ≤ g ∧ w.heap[g]? = some (.cells cur t (0, 0)) ∧ n ≤ cap ∧ cap ≤ maxLen ∧ cur.size = cap * 3 ∧ cur.toList.take (n * 3) = xs := by
  rcases h.2 with ⟨_, h0⟩ | ⟨g, cap, cur, hv, hb, hg, h1, h2, h3, h4⟩
  · omega
  · exact ⟨g, cap, cur, hv, hb, hg, h1, h2, h3, h4⟩
def zeroC : Array Value := #[.int .i64 0, .slice none 0 0, .slice none 0 0, .slice none 0 0, .slice none 0 0, .slice none 0 0, .slice none 0 0, .slice none 0 0, .slice none 0 0, .slice none 0 0, .slice none 0 0]
structure LdS (w wx : World) (b : Nat) (C : Circ) (us : List Value) (V : CV) (m : Int) (U : CV) (PL PA : World → Value → Prop) : Prop where
  below : Below w.heap.size w wx
  box1 : Blk wx w.heap.size 29 (V.cells m)
  res : Blk wx (w.heap.size + 1) 29 zeroC
  box : Blk wx b 29 (U.cells m)
  i : Lent wx w.heap.size U.i C.inputs
  o : Lent wx w.heap.size U.o C.outputs
  b' : Lent wx w.heap.size U.b C.bads
  c : Lent wx w.heap.size U.c C.constraints
  f : Lent wx w.heap.size U.f C.fairness
  j : JRow wx w.heap.size U.j us C.justice
  s : wx.ownsRow w.heap.size 155 3 U.s C.symbols.length (C.symbols.flatMap encS)
  t : wx.ownsRow w.heap.size 9 1 U.t C.comments.length (C.comments.flatMap encB)
  l : PL wx U.l
  a : PA wx U.a
theorem LdS.on_below {w wx wy : World} {b : Nat} {C : Circ} {us : List Value} {V : CV} {m : Int} {U : CV} {PL PA : World → Value → Prop} (h : LdS w wx b C us V m U PL PA) (hb : Below wx.heap.size wx wy) (hl : PL wy U.l) (ha : PA wy U.a) : LdS w wy b C us V m U PL PA :=
  ⟨h.below.trans (hb.mono h.below.size), h.box1.below hb h.box1.lt, h.res.below hb h.res.lt, h.box.below hb h.box.lt, h.i.below hb, h.o.below hb, h.b'.below hb, h.c.below hb, h.f.below hb, h.j.below hb, own_below h.s hb, own_below h.t hb, hl, ha⟩
theorem reads_three (w : World) (a b c : Value) (t : TypeId) : Reads (w.alloc (.cells #[a, b, c] t)) (w.heap.size + 1) 3 (some ⟨w.heap.size, 0, none⟩) 1 [a, b, c] := by
  refine ⟨rfl, fun _ => ⟨_, rfl, by simp, fun j u hu => ?_⟩⟩
  rw [add_none, Nat.zero_add, cell_of_row _ _ _ #[a, b, c] t (0, 0) (heap_alloc_new w _)]
  simpa using hu
/-- One world keeps what another had, but for blocks of one type. -/
structure KeepBut (ty : TypeId) (wx wy : World) : Prop where
  os : wy.os = wx.os
  tape : wy.tape = wx.tape
  output : wy.output = wx.output
  size : wx.heap.size ≤ wy.heap.size
  blk : ∀ k, k < wx.heap.size → (∀ cs, ¬ Blk wx k ty cs) → wy.heap[k]? = wx.heap[k]?
section
variable {ty : TypeId} {wx wy : World}
theorem KeepBut.blk_ (h : KeepBut ty wx wy) {k : Nat} {t : TypeId} {cs : Array Value} (hb : Blk wx k t cs) (hne : t ≠ ty) : Blk wy k t cs :=
  (h.blk k hb.lt (fun _cs' hb' => hb.ne_ hb' hne rfl)).trans hb
theorem KeepBut.own (h : KeepBut ty wx wy) {B n k : Nat} {t : TypeId} {v : Value} {xs : List Value} (ho : wx.ownsRow B t k v n xs) (hne : t ≠ ty) : wy.ownsRow B t k v n xs :=
  own_of_block ho fun g hg => h.blk g (ho.lt g hg).2 (fun _cs hb => own_blk_ne ho hb hne hg)
theorem KeepBut.lent (h : KeepBut ty wx wy) {B : Nat} {v : Value} {zs : List Int} (hl : Lent wx B v zs) (hne : 3 ≠ ty) : Lent wy B v zs := by
  obtain ⟨g, cap, cur, e, hB, hg, hx⟩ := hl
  exact ⟨g, cap, cur, e, hB, h.blk_ (show Blk wx g 3 cur from hg) hne, hx⟩
theorem KeepBut.lentT (h : KeepBut ty wx wy) {B : Nat} {t : TypeId} {v : Value} {zs : List Tri} (hl : LentT wx B t v zs) (hne : t ≠ ty) : LentT wy B t v zs := by
  obtain ⟨g, cap, cur, e, hB, hg, hx⟩ := hl
  exact ⟨g, cap, cur, e, hB, h.blk_ (show Blk wx g t cur from hg) hne, hx⟩
theorem KeepBut.jrow (h : KeepBut ty wx wy) {B : Nat} {v : Value} {us : List Value} {zss : List (List Int)} (hj : JRow wx B v us zss) (h1 : 3 ≠ ty) (h2 : 22 ≠ ty) : JRow wy B v us zss :=
  ⟨hj.ul, h.own hj.own h2, fun i u zs hu hz => h.own (hj.each i u zs hu hz) h1⟩
theorem KeepBut.trans {wz : World} (h : KeepBut ty wx wy) (h2 : KeepBut ty wy wz) (hb : ∀ k cs, k < wx.heap.size → Blk wy k ty cs → ∃ cs', Blk wx k ty cs') : KeepBut ty wx wz :=
  ⟨h2.os.trans h.os, h2.tape.trans h.tape, h2.output.trans h.output, Nat.le_trans h.size h2.size, fun k hk hn => (h2.blk k (Nat.lt_of_lt_of_le hk h.size) (fun cs hc => by
    obtain ⟨cs', h'⟩ := hb k cs hk hc
    exact hn cs' h')).trans (h.blk k hk hn)⟩
end
/-- An append onto a row of the call's own, behind a new block. -/
theorem keep_app {wx w6 : World} {B n k : Nat} {ty : TypeId} {v : Value} {xs : List Value} {o : Obj} (ho : wx.ownsRow B ty k v n xs) (hg : (wx.alloc o).grownBy w6 v.ownBlock) : KeepBut ty wx w6 := by
  refine ⟨hg.os, hg.tape, hg.output, Nat.le_trans (by simp) hg.size, fun j hj hn => ?_⟩
  have h1 : (wx.alloc o).heap[j]? = wx.heap[j]? := Below.heap_alloc _ _ _ hj
  refine (hg.block j (by simp; omega) (fun e => ?_)).trans h1
  rcases ho.2 with ⟨rfl, _⟩ | ⟨g, cap, cur, rfl, _, hgg, _⟩
  · cases e
  · have : j = g := by simpa [Value.ownBlock] using e
    subst this
    exact hn cur hgg
/-- One more behind the latches' end. -/
theorem LdS.appL {w wx w6 : World} {b : Nat} {C : Circ} {us : List Value} {V : CV} {m : Int} {U : CV} {PA : World → Value → Prop} {o : Obj} {v6 : Value} (h : LdS w wx b C us V m U (fun w' v => w'.ownsRow w.heap.size 70 3 v C.latches.length (C.latches.flatMap encT)) PA)
    (hB : w.heap.size ≤ b) (hne : b ≠ w.heap.size ∧ b ≠ w.heap.size + 1) (hPA : ∀ w1 w2 v, KeepBut 70 w1 w2 → PA w1 v → PA w2 v) (hPA2 : ∀ w1 v k u, (∃ cs, Blk w1 b 29 cs) → PA w1 v → PA (w1.setCell ⟨b, k, none⟩ u) v)
    (hg : (wx.alloc o).grownBy w6 U.l.ownBlock) (ho6 : w6.ownsRow w.heap.size 70 3 v6 (C.latches.length + 1) (C.latches.flatMap encT ++ [.int .i64 (-77), .int .i64 0, .int .i64 0])) :
    ∃ g cap, v6 = .slice (some ⟨g, 0, none⟩) (C.latches.length + 1) cap ∧ C.latches.length + 1 ≤ cap ∧ cap ≤ maxLen ∧ Blk w6 w.heap.size 29 (V.cells m) ∧ Blk w6 b 29 (U.cells m) ∧
      LdS w (w6.setCell ⟨b, 2, none⟩ (.slice (some ⟨g, 0, none⟩) C.latches.length cap)) b C us V m { U with l := .slice (some ⟨g, 0, none⟩) C.latches.length cap } (fun w' v => LentT w' w.heap.size 70 v C.latches) PA := by
  have hk := keep_app h.l hg
  obtain ⟨g, cap, cur, rfl, hgB, hgg, h1, h2, h3, h4⟩ := own_form3 ho6 (by omega)
  have hb6 := hk.blk_ h.box (by decide)
  have hx6 := hk.blk_ h.box1 (by decide)
  have hr6 := hk.blk_ h.res (by decide)
  have hlo : ∀ g', U.l.ownBlock = some g' → w.heap.size ≤ g' := fun g' e => (h.l.lt g' e).1
  have hbel : Below w.heap.size w w6 := (h.below.alloc h.below.size o).grown hg (by have := h.below.size; simp; omega) hlo
  refine ⟨g, cap, rfl, h1, h2, hx6, hb6, ?_⟩
  generalize hv : Value.slice (some ⟨g, 0, none⟩) C.latches.length cap = v
  have keep : ∀ {t : TypeId} {k n : Nat} {u : Value} {xs : List Value}, w6.ownsRow w.heap.size t k u n xs → t ≠ 29 → (w6.setCell ⟨b, 2, none⟩ v).ownsRow w.heap.size t k u n xs := fun ho ht =>
    own_of_block ho fun g' hg' => Below.heap_setCell _ _ _ _ (fun e => own_blk_ne ho hb6 ht (by rw [hg', e]))
  have hl : ∀ {u : Value} {zs : List Int}, Lent w6 w.heap.size u zs → Lent (w6.setCell ⟨b, 2, none⟩ v) w.heap.size u zs := fun hl => lent_on hl hb6 (only_setL (World.grownBy.refl w6 _) 2 v)
  refine ⟨hbel.setCell hB _, Blk.far hx6 (by exact Ne.symm hne.1) _, Blk.far hr6 (by exact Ne.symm hne.2) _, by simpa [CV.cells] using Blk.set_ hb6 2 v, hl (hk.lent h.i (by decide)), hl (hk.lent h.o (by decide)), hl (hk.lent h.b' (by decide)), hl (hk.lent h.c (by decide)), hl (hk.lent h.f (by decide)), ?_, keep (hk.own h.s (by decide)) (by decide), keep (hk.own h.t (by decide)) (by decide), ?_, hPA2 _ _ _ _ ⟨_, hb6⟩ (hPA _ _ _ hk h.a)⟩
  · have hj := hk.jrow h.j (by decide) (by decide)
    exact ⟨hj.ul, keep hj.own (by decide), fun i u zs hu hz => keep (hj.each i u zs hu hz) (by decide)⟩
  · show LentT _ _ _ v _
    subst hv
    exact ⟨g, cap, cur, rfl, hgB, (Below.heap_setCell _ _ _ _ (fun e => by
      have h5 : Blk w6 g 70 cur := hgg
      exact h5.ne_ hb6 (by decide) e)).trans hgg, h1, h2, h3, h4⟩
/-- One more behind the gates' end. -/
theorem LdS.appA {w wx w6 : World} {b : Nat} {C : Circ} {us : List Value} {V : CV} {m : Int} {U : CV} {PL : World → Value → Prop} {o : Obj} {v6 : Value} (h : LdS w wx b C us V m U PL (fun w' v => w'.ownsRow w.heap.size 68 3 v C.ands.length (C.ands.flatMap encT)))
    (hB : w.heap.size ≤ b) (hne : b ≠ w.heap.size ∧ b ≠ w.heap.size + 1) (hPL : ∀ w1 w2 v, KeepBut 68 w1 w2 → PL w1 v → PL w2 v) (hPL2 : ∀ w1 v k u, (∃ cs, Blk w1 b 29 cs) → PL w1 v → PL (w1.setCell ⟨b, k, none⟩ u) v)
    (hg : (wx.alloc o).grownBy w6 U.a.ownBlock) (ho6 : w6.ownsRow w.heap.size 68 3 v6 (C.ands.length + 1) (C.ands.flatMap encT ++ [.int .i64 (-77), .int .i64 0, .int .i64 0])) :
    ∃ g cap, v6 = .slice (some ⟨g, 0, none⟩) (C.ands.length + 1) cap ∧ C.ands.length + 1 ≤ cap ∧ cap ≤ maxLen ∧ Blk w6 w.heap.size 29 (V.cells m) ∧ Blk w6 b 29 (U.cells m) ∧
      LdS w (w6.setCell ⟨b, 8, none⟩ (.slice (some ⟨g, 0, none⟩) C.ands.length cap)) b C us V m { U with a := .slice (some ⟨g, 0, none⟩) C.ands.length cap } PL (fun w' v => LentT w' w.heap.size 68 v C.ands) := by
  have hk := keep_app h.a hg
  obtain ⟨g, cap, cur, rfl, hgB, hgg, h1, h2, h3, h4⟩ := own_form3 ho6 (by omega)
  have hb6 := hk.blk_ h.box (by decide)
  have hx6 := hk.blk_ h.box1 (by decide)
  have hr6 := hk.blk_ h.res (by decide)
  have hlo : ∀ g', U.a.ownBlock = some g' → w.heap.size ≤ g' := fun g' e => (h.a.lt g' e).1
  have hbel : Below w.heap.size w w6 := (h.below.alloc h.below.size o).grown hg (by have := h.below.size; simp; omega) hlo
  refine ⟨g, cap, rfl, h1, h2, hx6, hb6, ?_⟩
  generalize hv : Value.slice (some ⟨g, 0, none⟩) C.ands.length cap = v
  have keep : ∀ {t : TypeId} {k n : Nat} {u : Value} {xs : List Value}, w6.ownsRow w.heap.size t k u n xs → t ≠ 29 → (w6.setCell ⟨b, 8, none⟩ v).ownsRow w.heap.size t k u n xs := fun ho ht =>
    own_of_block ho fun g' hg' => Below.heap_setCell _ _ _ _ (fun e => own_blk_ne ho hb6 ht (by rw [hg', e]))
  have hl : ∀ {u : Value} {zs : List Int}, Lent w6 w.heap.size u zs → Lent (w6.setCell ⟨b, 8, none⟩ v) w.heap.size u zs := fun hl => lent_on hl hb6 (only_setL (World.grownBy.refl w6 _) 8 v)
  refine ⟨hbel.setCell hB _, Blk.far hx6 (by exact Ne.symm hne.1) _, Blk.far hr6 (by exact Ne.symm hne.2) _, by simpa [CV.cells] using Blk.set_ hb6 8 v, hl (hk.lent h.i (by decide)), hl (hk.lent h.o (by decide)), hl (hk.lent h.b' (by decide)), hl (hk.lent h.c (by decide)), hl (hk.lent h.f (by decide)), ?_, keep (hk.own h.s (by decide)) (by decide), keep (hk.own h.t (by decide)) (by decide), hPL2 _ _ _ _ ⟨_, hb6⟩ (hPL _ _ _ hk h.l), ?_⟩
  · have hj := hk.jrow h.j (by decide) (by decide)
    exact ⟨hj.ul, keep hj.own (by decide), fun i u zs hu hz => keep (hj.each i u zs hu hz) (by decide)⟩
  · show LentT _ _ _ v _
    subst hv
    exact ⟨g, cap, cur, rfl, hgB, (Below.heap_setCell _ _ _ _ (fun e => by
      have h5 : Blk w6 g 68 cur := hgg
      exact h5.ne_ hb6 (by decide) e)).trans hgg, h1, h2, h3, h4⟩
theorem lentT_set {w1 : World} {b k B : Nat} {t : TypeId} {u v : Value} {zs : List Tri} (hb : ∃ cs, Blk w1 b 29 cs) (ht : t ≠ 29) (h : LentT w1 B t v zs) : LentT (w1.setCell ⟨b, k, none⟩ u) B t v zs := by
  obtain ⟨cs, hb⟩ := hb
  obtain ⟨g, cap, cur, e, hB, hg, hx⟩ := h
  exact ⟨g, cap, cur, e, hB, (Below.heap_setCell _ _ _ _ (fun e => Blk.ne_ (show Blk w1 g t cur from hg) hb ht e)).trans hg, hx⟩
theorem own_setC {w1 : World} {b k B n size : Nat} {t : TypeId} {u v : Value} {xs : List Value} (hb : ∃ cs, Blk w1 b 29 cs) (ht : t ≠ 29) (h : w1.ownsRow B t size v n xs) : (w1.setCell ⟨b, k, none⟩ u).ownsRow B t size v n xs := by
  obtain ⟨cs, hb⟩ := hb
  exact own_of_block h fun g' hg' => Below.heap_setCell _ _ _ _ (fun e => own_blk_ne h hb ht (by rw [hg', e]))
/-- The box when the five lists have been put there. -/
theorem sto_end {B b : Nat} {C : Circ} {X w' : World} {m : Int} {U : CV} (hX : Blk X b 29 (U.cells m)) (hg : StoG B b C X w') {v1 v3 v4 v5 v7 : Value} (p1 : putV B b C 1 v1 w') (p3 : putV B b C 3 v3 w') (p4 : putV B b C 4 v4 w') (p5 : putV B b C 5 v5 w') (p7 : putV B b C 7 v7 w') :
    ∃ u1 u3 u4 u5 u7, Blk w' b 29 #[.int .i64 m, u1, U.l, u3, u4, u5, U.j, u7, U.a, U.s, U.t] ∧ Lent w' B u1 C.inputs ∧ Lent w' B u3 C.outputs ∧ Lent w' B u4 C.bads ∧ Lent w' B u5 C.constraints ∧ Lent w' B u7 C.fairness := by
  obtain ⟨cs, hb, hs, hk⟩ := hg.box _ hX
  have same : ∀ {cs'}, Blk w' b 29 cs' → cs' = cs := fun {cs'} hb' => by
    have h1 : w'.heap[b]? = some (.cells cs' 29 (0, 0)) := hb'
    have h2 : w'.heap[b]? = some (.cells cs 29 (0, 0)) := hb
    rw [h1] at h2
    injection h2 with h2
    injection h2
  obtain ⟨cs1, u1, e1, a1, z1, y1, l1⟩ := p1
  obtain ⟨cs3, u3, e3, a3, z3, y3, l3⟩ := p3
  obtain ⟨cs4, u4, e4, a4, z4, y4, l4⟩ := p4
  obtain ⟨cs5, u5, e5, a5, z5, y5, l5⟩ := p5
  obtain ⟨cs7, u7, e7, a7, z7, y7, l7⟩ := p7
  have := same e1; subst this
  have := same e3; subst this
  have := same e4; subst this
  have := same e5; subst this
  have := same e7; subst this
  simp [pick5] at y1 y3 y4 y5 y7
  subst y1 y3 y4 y5 y7
  have old : ∀ k, pick5 C k = none → cs7[k]? = (U.cells m)[k]? := fun k hn => by
    rcases hk k with e | ⟨u, _, zs, hz, _⟩
    · exact e
    · rw [hn] at hz; cases hz
  have o0 := old 0 rfl
  have o2 := old 2 rfl
  have o6 := old 6 rfl
  have o8 := old 8 rfl
  have o9 := old 9 rfl
  have o10 := old 10 rfl
  have hcs : cs7 = #[.int .i64 m, u1, U.l, u3, u4, u5, U.j, u7, U.a, U.s, U.t] := by
    apply Array.ext_getElem?
    intro k
    by_cases hk11 : k < 11
    · have : k = 0 ∨ k = 1 ∨ k = 2 ∨ k = 3 ∨ k = 4 ∨ k = 5 ∨ k = 6 ∨ k = 7 ∨ k = 8 ∨ k = 9 ∨ k = 10 := by omega
      rcases this with rfl | rfl | rfl | rfl | rfl | rfl | rfl | rfl | rfl | rfl | rfl
      · exact o0
      · exact a1
      · exact o2
      · exact a3
      · exact a4
      · exact a5
      · exact o6
      · exact a7
      · exact o8
      · exact o9
      · exact o10
    · rw [Array.getElem?_eq_none (by rw [hs]; simp; omega), Array.getElem?_eq_none (by simp; omega)]
  rw [hcs] at hb
  exact ⟨u1, u3, u4, u5, u7, hb, l1, l3, l4, l5, l7⟩
end Go.Proofs.Ytdodhbfplglbkaa

namespace Go.Proofs.Ytdodhbfplglbkaa
open Go.RowKit

def lendVals2 (B bx b : Nat) (V : CV) (C : Circ) : List (Value → World → Prop) := [
  cst (.pointer (some ⟨bx, 1, none⟩)),
  cst V.i,
  lentV B b C C.inputs,
  cst (.pointer (some ⟨bx, 3, none⟩)),
  cst V.o,
  lentV B b C C.outputs,
  cst (.pointer (some ⟨bx, 4, none⟩)),
  cst V.b,
  lentV B b C C.bads,
  cst (.pointer (some ⟨b, 1, none⟩)),
  putV B b C 1,
  cst (.pointer (some ⟨b, 3, none⟩)),
  putV B b C 3,
  cst (.pointer (some ⟨b, 4, none⟩)),
  putV B b C 4]
theorem lend_keep2 {B bx b : Nat} {V : CV} {C : Circ} : ∀ i v w1 w2, StoG B b C w1 w2 → valL (lendVals2 B bx b V C) i v w1 → valL (lendVals2 B bx b V C) i v w2 := by
  refine valL_keep (G := StoG B b C) _ (fun p hp => ?_)
  simp only [lendVals2, List.mem_cons, List.not_mem_nil, or_false] at hp
  rcases hp with rfl | rfl | rfl | rfl | rfl | rfl | rfl | rfl | rfl | rfl | rfl | rfl | rfl | rfl | rfl
  · exact cst_stab _
  · exact cst_stab _
  · exact fun v w1 w2 hg h => lentV_on v w1 w2 hg h
  · exact cst_stab _
  · exact cst_stab _
  · exact fun v w1 w2 hg h => lentV_on v w1 w2 hg h
  · exact cst_stab _
  · exact cst_stab _
  · exact fun v w1 w2 hg h => lentV_on v w1 w2 hg h
  · exact cst_stab _
  · exact fun v w1 w2 hg h => putV_on v w1 w2 hg h
  · exact cst_stab _
  · exact fun v w1 w2 hg h => putV_on v w1 w2 hg h
  · exact cst_stab _
  · exact fun v w1 w2 hg h => putV_on v w1 w2 hg h
def lendVals3 (B bx b : Nat) (V : CV) (C : Circ) : List (Value → World → Prop) := [
  cst (.pointer (some ⟨bx, 5, none⟩)),
  cst V.c,
  lentV B b C C.constraints,
  cst (.pointer (some ⟨bx, 7, none⟩)),
  cst V.f,
  lentV B b C C.fairness,
  cst (.pointer (some ⟨b, 5, none⟩)),
  putV B b C 5,
  cst (.pointer (some ⟨b, 7, none⟩)),
  putV B b C 7]
theorem lend_keep3 {B bx b : Nat} {V : CV} {C : Circ} : ∀ i v w1 w2, StoG B b C w1 w2 → valL (lendVals3 B bx b V C) i v w1 → valL (lendVals3 B bx b V C) i v w2 := by
  refine valL_keep (G := StoG B b C) _ (fun p hp => ?_)
  simp only [lendVals3, List.mem_cons, List.not_mem_nil, or_false] at hp
  rcases hp with rfl | rfl | rfl | rfl | rfl | rfl | rfl | rfl | rfl | rfl
  · exact cst_stab _
  · exact cst_stab _
  · exact fun v w1 w2 hg h => lentV_on v w1 w2 hg h
  · exact cst_stab _
  · exact cst_stab _
  · exact fun v w1 w2 hg h => lentV_on v w1 w2 hg h
  · exact cst_stab _
  · exact fun v w1 w2 hg h => putV_on v w1 w2 hg h
  · exact cst_stab _
  · exact fun v w1 w2 hg h => putV_on v w1 w2 hg h

set_option maxHeartbeats 4000000 in
set_option maxRecDepth 100000 in
theorem LendCircuit_any (w : World) (V : CV) (C : Circ) (h : C.In w V) (hr : C.Room) (hr2 : C.inputs.length * 8 ≤ 140737488351232 ∧ C.outputs.length * 8 ≤ 140737488351232 ∧ C.bads.length * 8 ≤ 140737488351232 ∧ C.constraints.length * 8 ≤ 140737488351232 ∧ C.fairness.length * 8 ≤ 140737488351232 ∧ C.latches.length * 24 ≤ 140737488351232 ∧ C.ands.length * 24 ≤ 140737488351232) :
    Calls Try.prog 9 #[V.val C.max] w fun e w' => ∃ V' us, e = .returned (CV.val V' C.max) ∧ Below w.heap.size w w' ∧ LentC w' w.heap.size C us V' := by
  have HR2 := Lib.hid hr2
  obtain ⟨W0, hW0⟩ : ∃ W0, W0 = (w.alloc (.cells (V.cells C.max) 29)).alloc (.cells #[.int .i64 0, .slice none 0 0, .slice none 0 0, .slice none 0 0, .slice none 0 0, .slice none 0 0, .slice none 0 0, .slice none 0 0, .slice none 0 0, .slice none 0 0, .slice none 0 0] 29) := ⟨_, rfl⟩
  have HB0 : Hid (Below w.heap.size w W0) := Lib.hid (by rw [hW0]; exact ((Below.refl w.heap.size w).alloc (Nat.le_refl _) _).alloc (by simp) _)
  have HS0 : Hid (W0.heap.size = w.heap.size + 1 + 1) := Lib.hid (by rw [hW0]; simp)
  have HBX : Hid (∀ wz, Below W0.heap.size W0 wz → Blk wz w.heap.size 29 (V.cells C.max)) := Lib.hid (fun wz hb => by
    have : Blk W0 w.heap.size 29 (V.cells C.max) := by rw [hW0]; exact (Blk.new w _ _).alloc _
    exact this.below hb this.lt)
  have HIN : Hid (∀ wz, Below W0.heap.size W0 wz → C.In wz V) := Lib.hid (fun wz hb => (h.below HB0.out).below hb)
  have hcc := CopyCircuit_any W0 V C (h.below HB0.out) hr
  have HCC := Lib.hid hcc
  have HR := Lib.hid hr
  have HW0 := Lib.hid hW0
  obtain ⟨m, hmm⟩ : ∃ m, C.max = m := ⟨_, rfl⟩
  have HMM := Lib.hid hmm
  obtain ⟨Vi, Vl, Vo, Vb, Vc, Vj, Vf, Va, Vs, Vt⟩ := V
  rw [hmm] at HCC HBX HW0
  rw [hmm]
  clear hr hr2 hcc hW0 hmm h
  rw [HW0.out] at HCC
  go_enter Try.func9, Try.ntmps9
  go_upto_region 2 with (go_at_call 42; go_loud (refine HCC.out.mono ?_; rw [← HW0.out]; rintro e w1 ⟨V', us, rfl, hb1, hc1⟩; have HB1 := Lib.hid hb1; have HC1 := Lib.hid hc1; obtain ⟨Wi, Wl, Wo, Wb, Wc, Wj, Wf, Wa, Ws, Wt⟩ := V'; obtain ⟨i1, i2, i3, q1⟩ := own_slc hc1.i; obtain ⟨l1, l3, q2⟩ := own_slice_k hc1.l; obtain ⟨o1, o2, o3, q3⟩ := own_slc hc1.o; obtain ⟨b1, b2, b3, q4⟩ := own_slc hc1.b; obtain ⟨d1, d2, d3, q5⟩ := own_slc hc1.c; obtain ⟨j1, j2, j3, q6⟩ := own_slc hc1.j.own; obtain ⟨f1, f2, f3, q7⟩ := own_slc hc1.f; obtain ⟨a1, a3, q10⟩ := own_slice_k hc1.a; obtain ⟨s1, s2, s3, q8⟩ := own_slc hc1.s; obtain ⟨t1, t2, t3, q9⟩ := own_slc hc1.t; simp only at q1 q2 q3 q4 q5 q6 q7 q8 q9 q10; subst q1 q2 q3 q4 q5 q6 q7 q8 q9 q10; obtain ⟨c0, c1, c2, c3, c4, c5, c6, c7, c8, c9, c10⟩ := box_of (HBX.out w1 hb1); clear hb1 hc1))
  clear c0 c1 c2 c3 c4 c5 c6 c7 c8 c9 c10

  obtain ⟨X, hX⟩ : ∃ X, X = w1.alloc (.cells #[.int .i64 m, .slice i1 i2 i3, .slice l1 C.latches.length l3, .slice o1 o2 o3, .slice b1 b2 b3, .slice d1 d2 d3, .slice j1 j2 j3, .slice f1 f2 f3, .slice a1 C.ands.length a3, .slice s1 s2 s3, .slice t1 t2 t3] 29) := ⟨_, rfl⟩
  have HX := Lib.hid hX
  have HXB : Hid (Blk X w1.heap.size 29 #[.int .i64 m, .slice i1 i2 i3, .slice l1 C.latches.length l3, .slice o1 o2 o3, .slice b1 b2 b3, .slice d1 d2 d3, .slice j1 j2 j3, .slice f1 f2 f3, .slice a1 C.ands.length a3, .slice s1 s2 s3, .slice t1 t2 t3]) := Lib.hid (by rw [hX]; exact Blk.new w1 _ _)
  have HX1 : Hid (Below w1.heap.size w1 X) := Lib.hid (by rw [hX]; exact (Below.refl _ _).alloc (Nat.le_refl _) _)
  have HSZ1 : Hid (w.heap.size + 1 + 1 ≤ w1.heap.size) := Lib.hid (by have := HB1.out.size; have := HS0.out; omega)
  have HXW : Hid (∀ wz, StoG w.heap.size w1.heap.size C X wz → (∀ k, wz.cell? ⟨w.heap.size, k, none⟩ = (#[.int .i64 m, Vi, Vl, Vo, Vb, Vc, Vj, Vf, Va, Vs, Vt] : Array Value)[k]?) ∧ C.In wz ⟨Vi, Vl, Vo, Vb, Vc, Vj, Vf, Va, Vs, Vt⟩ ∧ w.heap.size ≤ wz.heap.size ∧ (∃ cs, Blk wz w1.heap.size 29 cs ∧ cs.size = 11)) := Lib.hid (fun wz hg => by
    have h1 : Below w1.heap.size w1 wz := by
      have h2 := hg.grown
      have h3 := HX1.out
      exact ⟨h2.os.trans h3.os, h2.tape.trans h3.tape, h2.output.trans h3.output, Nat.le_trans h3.size h2.size, fun k hk => (h2.block k (Nat.lt_of_lt_of_le hk h3.size) (fun e => by injection e with e; omega)).trans (h3.block k hk)⟩
    have h4 : Below W0.heap.size W0 wz := bt HB1.out (Nat.le_refl _) h1
    obtain ⟨cs, a, b, _⟩ := hg.box _ HXB.out
    exact ⟨fun k => (HBX.out wz h4).cell k, HIN.out wz h4, by have := h4.size; have := HS0.out; omega, cs, a, b⟩)
  rw [← HX.out]
  clear hX
  refine region_lit ?_
  intro ops hops
  have HB : webB ops = true := by rw [hops]; kernel_rfl
  have HACY : acyB ops = true := by rw [hops]; kernel_rfl
  have HSIZE : ops.size = 15 := by rw [hops]; rfl
  have HND1 : ∀ j, j < ops.size → dstOf ops j ≠ some 1 := noDst_spec (by rw [hops]; kernel_rfl)
  have HND3 : ∀ j, j < ops.size → dstOf ops j ≠ some 3 := noDst_spec (by rw [hops]; kernel_rfl)
  obtain ⟨w0, hw0⟩ : ∃ w0 : World, w0 = { X with drawn := X.drawn + 1 } := ⟨_, rfl⟩
  have hg0 : StoG w.heap.size w1.heap.size C X w0 := StoG.trans (StoG.refl _ _ _ _) (by rw [hw0]; exact StoG.below ((Below.refl _ _).drew))
  refine wp_region_web (by kernel_rfl) HB HACY (StoG w.heap.size w1.heap.size C) (valL (lendVals2 w.heap.size w.heap.size w1.heap.size ⟨Vi, Vl, Vo, Vb, Vc, Vj, Vf, Va, Vs, Vt⟩ C)) (fun _ _ _ => True) (fun _ _ _ _ => True) (fun _ _ _ _ _ _ _ _ => ⟨trivial, trivial⟩) (fun a => StoG.refl _ _ _ a) (fun a b c h1 h2 => h1.trans h2) lend_keep2 ?_ ?_
  · intro i o ho
    rw [← hw0]
    rw [hops] at ho
    match i, ho with
    | 0, ho =>
      simp only [List.getElem?_toArray, List.getElem?_cons_zero, Option.some.injEq] at ho; subst ho
      refine webStep_of HB rfl (fun f aC wz hw hd ha hv hsp K hK => ?_)
      obtain ⟨hcell, hin, hsz, cs, hcs, hcs11⟩ := HXW.out wz (hg0.trans hw)
      have e1 : aC.eval (.tmp 1) = .pointer (some ⟨w.heap.size, 0, none⟩) := (ha 1 HND1).trans rfl
      refine wp_val (v := .pointer (some ⟨w.heap.size, 1, none⟩)) (w' := wz) ?_ (hK _ _ (StoG.refl _ _ _ _) rfl trivial)
      show ((do pure (Next.value (← Instr.fieldAt 29 (aC.eval (.tmp 1)) 1)) : Sem Next)).run Try.prog wz = _
      rw [e1]
      exact run_value (field_1 _ _)
    | 1, ho =>
      simp only [List.getElem?_toArray, List.getElem?_cons_zero, List.getElem?_cons_succ, Option.some.injEq] at ho; subst ho
      refine webStep_of HB rfl (fun f aC wz hw hd ha hv hsp K hK => ?_)
      obtain ⟨hcell, hin, hsz, cs, hcs, hcs11⟩ := HXW.out wz (hg0.trans hw)
      have e1 : aC.eval (.tmp 6) = .pointer (some ⟨w.heap.size, 1, none⟩) := (hd 0 6 (by rw [hops]; kernel_rfl) (by rw [hops]; kernel_rfl) (by simp)).trans (hv 0 (by rw [hops]; kernel_rfl))
      refine wp_val (v := Vi) (w' := wz) ?_ (hK _ _ (StoG.refl _ _ _ _) rfl trivial)
      show ((do pure (Next.value (← Instr.loadAt 22 (aC.eval (.tmp 6)))) : Sem Next)).run Try.prog wz = _
      rw [e1]
      exact run_value (load_at _ load_I (hcell 1))
    | 2, ho =>
      simp only [List.getElem?_toArray, List.getElem?_cons_zero, List.getElem?_cons_succ, Option.some.injEq] at ho; subst ho
      refine webStep_of HB rfl (fun f aC wz hw hd ha hv hsp K hK => ?_)
      obtain ⟨hcell, hin, hsz, cs, hcs, hcs11⟩ := HXW.out wz (hg0.trans hw)
      have e1 : aC.eval (.tmp 7) = Vi := (hd 1 7 (by rw [hops]; kernel_rfl) (by rw [hops]; kernel_rfl) (by simp)).trans (hv 1 (by rw [hops]; kernel_rfl))
      refine wp_enter (f := 10) (args := #[Vi]) ?_ ((LendInts_any wz Vi C.inputs hin.i HR2.out.1).mono ?_)
      · simp [execOp, resolve, e1]; rfl
      · rintro e w' ⟨v', rfl, hl, hbel⟩
        exact ⟨v', rfl, hK v' w' (StoG.below hbel) ⟨⟨_, hcs.below hbel hcs.lt⟩, by obtain ⟨g, cap, cur, e1, h1, h2⟩ := hl; exact ⟨g, cap, cur, e1, Nat.le_trans hsz h1, h2⟩⟩ trivial⟩
    | 3, ho =>
      simp only [List.getElem?_toArray, List.getElem?_cons_zero, List.getElem?_cons_succ, Option.some.injEq] at ho; subst ho
      refine webStep_of HB rfl (fun f aC wz hw hd ha hv hsp K hK => ?_)
      obtain ⟨hcell, hin, hsz, cs, hcs, hcs11⟩ := HXW.out wz (hg0.trans hw)
      have e1 : aC.eval (.tmp 1) = .pointer (some ⟨w.heap.size, 0, none⟩) := (ha 1 HND1).trans rfl
      refine wp_val (v := .pointer (some ⟨w.heap.size, 3, none⟩)) (w' := wz) ?_ (hK _ _ (StoG.refl _ _ _ _) rfl trivial)
      show ((do pure (Next.value (← Instr.fieldAt 29 (aC.eval (.tmp 1)) 3)) : Sem Next)).run Try.prog wz = _
      rw [e1]
      exact run_value (field_3 _ _)
    | 4, ho =>
      simp only [List.getElem?_toArray, List.getElem?_cons_zero, List.getElem?_cons_succ, Option.some.injEq] at ho; subst ho
      refine webStep_of HB rfl (fun f aC wz hw hd ha hv hsp K hK => ?_)
      obtain ⟨hcell, hin, hsz, cs, hcs, hcs11⟩ := HXW.out wz (hg0.trans hw)
      have e1 : aC.eval (.tmp 9) = .pointer (some ⟨w.heap.size, 3, none⟩) := (hd 3 9 (by rw [hops]; kernel_rfl) (by rw [hops]; kernel_rfl) (by simp)).trans (hv 3 (by rw [hops]; kernel_rfl))
      refine wp_val (v := Vo) (w' := wz) ?_ (hK _ _ (StoG.refl _ _ _ _) rfl trivial)
      show ((do pure (Next.value (← Instr.loadAt 22 (aC.eval (.tmp 9)))) : Sem Next)).run Try.prog wz = _
      rw [e1]
      exact run_value (load_at _ load_I (hcell 3))
    | 5, ho =>
      simp only [List.getElem?_toArray, List.getElem?_cons_zero, List.getElem?_cons_succ, Option.some.injEq] at ho; subst ho
      refine webStep_of HB rfl (fun f aC wz hw hd ha hv hsp K hK => ?_)
      obtain ⟨hcell, hin, hsz, cs, hcs, hcs11⟩ := HXW.out wz (hg0.trans hw)
      have e1 : aC.eval (.tmp 10) = Vo := (hd 4 10 (by rw [hops]; kernel_rfl) (by rw [hops]; kernel_rfl) (by simp)).trans (hv 4 (by rw [hops]; kernel_rfl))
      refine wp_enter (f := 10) (args := #[Vo]) ?_ ((LendInts_any wz Vo C.outputs hin.o HR2.out.2.1).mono ?_)
      · simp [execOp, resolve, e1]; rfl
      · rintro e w' ⟨v', rfl, hl, hbel⟩
        exact ⟨v', rfl, hK v' w' (StoG.below hbel) ⟨⟨_, hcs.below hbel hcs.lt⟩, by obtain ⟨g, cap, cur, e1, h1, h2⟩ := hl; exact ⟨g, cap, cur, e1, Nat.le_trans hsz h1, h2⟩⟩ trivial⟩
    | 6, ho =>
      simp only [List.getElem?_toArray, List.getElem?_cons_zero, List.getElem?_cons_succ, Option.some.injEq] at ho; subst ho
      refine webStep_of HB rfl (fun f aC wz hw hd ha hv hsp K hK => ?_)
      obtain ⟨hcell, hin, hsz, cs, hcs, hcs11⟩ := HXW.out wz (hg0.trans hw)
      have e1 : aC.eval (.tmp 1) = .pointer (some ⟨w.heap.size, 0, none⟩) := (ha 1 HND1).trans rfl
      refine wp_val (v := .pointer (some ⟨w.heap.size, 4, none⟩)) (w' := wz) ?_ (hK _ _ (StoG.refl _ _ _ _) rfl trivial)
      show ((do pure (Next.value (← Instr.fieldAt 29 (aC.eval (.tmp 1)) 4)) : Sem Next)).run Try.prog wz = _
      rw [e1]
      exact run_value (field_4 _ _)
    | 7, ho =>
      simp only [List.getElem?_toArray, List.getElem?_cons_zero, List.getElem?_cons_succ, Option.some.injEq] at ho; subst ho
      refine webStep_of HB rfl (fun f aC wz hw hd ha hv hsp K hK => ?_)
      obtain ⟨hcell, hin, hsz, cs, hcs, hcs11⟩ := HXW.out wz (hg0.trans hw)
      have e1 : aC.eval (.tmp 12) = .pointer (some ⟨w.heap.size, 4, none⟩) := (hd 6 12 (by rw [hops]; kernel_rfl) (by rw [hops]; kernel_rfl) (by simp)).trans (hv 6 (by rw [hops]; kernel_rfl))
      refine wp_val (v := Vb) (w' := wz) ?_ (hK _ _ (StoG.refl _ _ _ _) rfl trivial)
      show ((do pure (Next.value (← Instr.loadAt 22 (aC.eval (.tmp 12)))) : Sem Next)).run Try.prog wz = _
      rw [e1]
      exact run_value (load_at _ load_I (hcell 4))
    | 8, ho =>
      simp only [List.getElem?_toArray, List.getElem?_cons_zero, List.getElem?_cons_succ, Option.some.injEq] at ho; subst ho
      refine webStep_of HB rfl (fun f aC wz hw hd ha hv hsp K hK => ?_)
      obtain ⟨hcell, hin, hsz, cs, hcs, hcs11⟩ := HXW.out wz (hg0.trans hw)
      have e1 : aC.eval (.tmp 13) = Vb := (hd 7 13 (by rw [hops]; kernel_rfl) (by rw [hops]; kernel_rfl) (by simp)).trans (hv 7 (by rw [hops]; kernel_rfl))
      refine wp_enter (f := 10) (args := #[Vb]) ?_ ((LendInts_any wz Vb C.bads hin.b HR2.out.2.2.1).mono ?_)
      · simp [execOp, resolve, e1]; rfl
      · rintro e w' ⟨v', rfl, hl, hbel⟩
        exact ⟨v', rfl, hK v' w' (StoG.below hbel) ⟨⟨_, hcs.below hbel hcs.lt⟩, by obtain ⟨g, cap, cur, e1, h1, h2⟩ := hl; exact ⟨g, cap, cur, e1, Nat.le_trans hsz h1, h2⟩⟩ trivial⟩
    | 9, ho =>
      simp only [List.getElem?_toArray, List.getElem?_cons_zero, List.getElem?_cons_succ, Option.some.injEq] at ho; subst ho
      refine webStep_of HB rfl (fun f aC wz hw hd ha hv hsp K hK => ?_)
      obtain ⟨hcell, hin, hsz, cs, hcs, hcs11⟩ := HXW.out wz (hg0.trans hw)
      have e1 : aC.eval (.tmp 3) = .pointer (some ⟨w1.heap.size, 0, none⟩) := (ha 3 HND3).trans rfl
      refine wp_val (v := .pointer (some ⟨w1.heap.size, 1, none⟩)) (w' := wz) ?_ (hK _ _ (StoG.refl _ _ _ _) rfl trivial)
      show ((do pure (Next.value (← Instr.fieldAt 29 (aC.eval (.tmp 3)) 1)) : Sem Next)).run Try.prog wz = _
      rw [e1]
      exact run_value (field_1 _ _)
    | 10, ho =>
      simp only [List.getElem?_toArray, List.getElem?_cons_zero, List.getElem?_cons_succ, Option.some.injEq] at ho; subst ho
      refine webStep_of HB rfl (fun f aC wz hw hd ha hv hsp K hK => ?_)
      obtain ⟨hcell, hin, hsz, cs, hcs, hcs11⟩ := HXW.out wz (hg0.trans hw)
      have e1 : aC.eval (.tmp 15) = .pointer (some ⟨w1.heap.size, 1, none⟩) := (hd 9 15 (by rw [hops]; kernel_rfl) (by rw [hops]; kernel_rfl) (by simp)).trans (hv 9 (by rw [hops]; kernel_rfl))
      have e2 := hd 2 8 (by rw [hops]; kernel_rfl) (by rw [hops]; kernel_rfl) (by simp)
      have hl2 : lentV w.heap.size w1.heap.size C C.inputs (f 2) wz := hv 2 (by rw [hops]; kernel_rfl)
      have hl := hl2.2
      obtain ⟨g, cap, _, ef, _⟩ := id hl
      have hput : StoG w.heap.size w1.heap.size C wz (wz.setCell ⟨w1.heap.size, 1, none⟩ (f 2)) := StoG.store hcs (by omega) (rfl : pick5 C 1 = some C.inputs) hl
      refine wp_store_slice (.tmp 15) (.tmp 8) rfl w1.heap.size 1 (some ⟨g, 0, none⟩) C.inputs.length cap e1 (e2.trans ef) (cs[1]) (by rw [hcs.cell, Array.getElem?_eq_getElem (by omega)]) (hcs.frozen 1) ?_
      rw [← ef]
      exact hK _ _ hput ⟨_, f 2, Blk.set_ hcs 1 (f 2), by simp [hcs11], C.inputs, rfl, lent_on hl hcs hput.grown⟩ trivial
    | 11, ho =>
      simp only [List.getElem?_toArray, List.getElem?_cons_zero, List.getElem?_cons_succ, Option.some.injEq] at ho; subst ho
      refine webStep_of HB rfl (fun f aC wz hw hd ha hv hsp K hK => ?_)
      obtain ⟨hcell, hin, hsz, cs, hcs, hcs11⟩ := HXW.out wz (hg0.trans hw)
      have e1 : aC.eval (.tmp 3) = .pointer (some ⟨w1.heap.size, 0, none⟩) := (ha 3 HND3).trans rfl
      refine wp_val (v := .pointer (some ⟨w1.heap.size, 3, none⟩)) (w' := wz) ?_ (hK _ _ (StoG.refl _ _ _ _) rfl trivial)
      show ((do pure (Next.value (← Instr.fieldAt 29 (aC.eval (.tmp 3)) 3)) : Sem Next)).run Try.prog wz = _
      rw [e1]
      exact run_value (field_3 _ _)
    | 12, ho =>
      simp only [List.getElem?_toArray, List.getElem?_cons_zero, List.getElem?_cons_succ, Option.some.injEq] at ho; subst ho
      refine webStep_of HB rfl (fun f aC wz hw hd ha hv hsp K hK => ?_)
      obtain ⟨hcell, hin, hsz, cs, hcs, hcs11⟩ := HXW.out wz (hg0.trans hw)
      have e1 : aC.eval (.tmp 16) = .pointer (some ⟨w1.heap.size, 3, none⟩) := (hd 11 16 (by rw [hops]; kernel_rfl) (by rw [hops]; kernel_rfl) (by simp)).trans (hv 11 (by rw [hops]; kernel_rfl))
      have e2 := hd 5 11 (by rw [hops]; kernel_rfl) (by rw [hops]; kernel_rfl) (by simp)
      have hl2 : lentV w.heap.size w1.heap.size C C.outputs (f 5) wz := hv 5 (by rw [hops]; kernel_rfl)
      have hl := hl2.2
      obtain ⟨g, cap, _, ef, _⟩ := id hl
      have hput : StoG w.heap.size w1.heap.size C wz (wz.setCell ⟨w1.heap.size, 3, none⟩ (f 5)) := StoG.store hcs (by omega) (rfl : pick5 C 3 = some C.outputs) hl
      refine wp_store_slice (.tmp 16) (.tmp 11) rfl w1.heap.size 3 (some ⟨g, 0, none⟩) C.outputs.length cap e1 (e2.trans ef) (cs[3]) (by rw [hcs.cell, Array.getElem?_eq_getElem (by omega)]) (hcs.frozen 3) ?_
      rw [← ef]
      exact hK _ _ hput ⟨_, f 5, Blk.set_ hcs 3 (f 5), by simp [hcs11], C.outputs, rfl, lent_on hl hcs hput.grown⟩ trivial
    | 13, ho =>
      simp only [List.getElem?_toArray, List.getElem?_cons_zero, List.getElem?_cons_succ, Option.some.injEq] at ho; subst ho
      refine webStep_of HB rfl (fun f aC wz hw hd ha hv hsp K hK => ?_)
      obtain ⟨hcell, hin, hsz, cs, hcs, hcs11⟩ := HXW.out wz (hg0.trans hw)
      have e1 : aC.eval (.tmp 3) = .pointer (some ⟨w1.heap.size, 0, none⟩) := (ha 3 HND3).trans rfl
      refine wp_val (v := .pointer (some ⟨w1.heap.size, 4, none⟩)) (w' := wz) ?_ (hK _ _ (StoG.refl _ _ _ _) rfl trivial)
      show ((do pure (Next.value (← Instr.fieldAt 29 (aC.eval (.tmp 3)) 4)) : Sem Next)).run Try.prog wz = _
      rw [e1]
      exact run_value (field_4 _ _)
    | 14, ho =>
      simp only [List.getElem?_toArray, List.getElem?_cons_zero, List.getElem?_cons_succ, Option.some.injEq] at ho; subst ho
      refine webStep_of HB rfl (fun f aC wz hw hd ha hv hsp K hK => ?_)
      obtain ⟨hcell, hin, hsz, cs, hcs, hcs11⟩ := HXW.out wz (hg0.trans hw)
      have e1 : aC.eval (.tmp 17) = .pointer (some ⟨w1.heap.size, 4, none⟩) := (hd 13 17 (by rw [hops]; kernel_rfl) (by rw [hops]; kernel_rfl) (by simp)).trans (hv 13 (by rw [hops]; kernel_rfl))
      have e2 := hd 8 14 (by rw [hops]; kernel_rfl) (by rw [hops]; kernel_rfl) (by simp)
      have hl2 : lentV w.heap.size w1.heap.size C C.bads (f 8) wz := hv 8 (by rw [hops]; kernel_rfl)
      have hl := hl2.2
      obtain ⟨g, cap, _, ef, _⟩ := id hl
      have hput : StoG w.heap.size w1.heap.size C wz (wz.setCell ⟨w1.heap.size, 4, none⟩ (f 8)) := StoG.store hcs (by omega) (rfl : pick5 C 4 = some C.bads) hl
      refine wp_store_slice (.tmp 17) (.tmp 14) rfl w1.heap.size 4 (some ⟨g, 0, none⟩) C.bads.length cap e1 (e2.trans ef) (cs[4]) (by rw [hcs.cell, Array.getElem?_eq_getElem (by omega)]) (hcs.frozen 4) ?_
      rw [← ef]
      exact hK _ _ hput ⟨_, f 8, Blk.set_ hcs 4 (f 8), by simp [hcs11], C.bads, rfl, lent_on hl hcs hput.grown⟩ trivial
    | n + 15, h => exact absurd h (by simp)
  intro f x2 hw hv hsp
  rw [← hw0] at hw
  have HXG2 : Hid (StoG w.heap.size w1.heap.size C X x2) := Lib.hid (hg0.trans hw)
  have HGS2 : Hid (StoG w.heap.size w1.heap.size C X x2) := Lib.hid (StoG.trans (show StoG w.heap.size w1.heap.size C X w0 from by rw [hw0]; exact StoG.below ((Below.refl _ _).drew)) hw)
  have hp1 : putV w.heap.size w1.heap.size C 1 (f 10) x2 := hv 10 (by rw [HSIZE]; omega)
  have HP1 := Lib.hid hp1
  have hp3 : putV w.heap.size w1.heap.size C 3 (f 12) x2 := hv 12 (by rw [HSIZE]; omega)
  have HP3 := Lib.hid hp3
  have hp4 : putV w.heap.size w1.heap.size C 4 (f 14) x2 := hv 14 (by rw [HSIZE]; omega)
  have HP4 := Lib.hid hp4
  have e : putAll ops f (List.range ops.size) ({ tmps := #[CV.val ⟨Vi, Vl, Vo, Vb, Vc, Vj, Vf, Va, Vs, Vt⟩ m, .pointer (some ⟨w.heap.size, 0, none⟩), .pointer (some ⟨w.heap.size + 1, 0, none⟩), .pointer (some ⟨w1.heap.size, 0, none⟩), .agg #[.int .i64 m, Vi, Vl, Vo, Vb, Vc, Vj, Vf, Va, Vs, Vt], CV.val ⟨.slice i1 i2 i3, .slice l1 C.latches.length l3, .slice o1 o2 o3, .slice b1 b2 b3, .slice d1 d2 d3, .slice j1 j2 j3, .slice f1 f2 f3, .slice a1 C.ands.length a3, .slice s1 s2 s3, .slice t1 t2 t3⟩ m, undef, undef, undef, undef, undef, undef, undef, undef, undef, undef, undef, undef, undef, undef, undef, undef, undef, undef, undef, undef, undef, undef, undef, undef, undef, undef, undef, undef, undef, undef, undef, undef, undef, undef, undef, undef, undef, undef, undef, undef, undef], defers := [] } : Act) = ({ tmps := #[CV.val ⟨Vi, Vl, Vo, Vb, Vc, Vj, Vf, Va, Vs, Vt⟩ m, .pointer (some ⟨w.heap.size, 0, none⟩), .pointer (some ⟨w.heap.size + 1, 0, none⟩), .pointer (some ⟨w1.heap.size, 0, none⟩), .agg #[.int .i64 m, Vi, Vl, Vo, Vb, Vc, Vj, Vf, Va, Vs, Vt], CV.val ⟨.slice i1 i2 i3, .slice l1 C.latches.length l3, .slice o1 o2 o3, .slice b1 b2 b3, .slice d1 d2 d3, .slice j1 j2 j3, .slice f1 f2 f3, .slice a1 C.ands.length a3, .slice s1 s2 s3, .slice t1 t2 t3⟩ m, f 0, f 1, f 2, f 3, f 4, f 5, f 6, f 7, f 8, f 9, f 11, f 13, undef, undef, undef, undef, undef, undef, undef, undef, undef, undef, undef, undef, undef, undef, undef, undef, undef, undef, undef, undef, undef, undef, undef, undef, undef, undef, undef, undef, undef], defers := [] } : Act) := by rw [hops]; kernel_rfl
  rw [e]
  clear e hw hv hsp hg0 hw0 HB HACY HSIZE HND1 HND3 hops hp1 hp3 hp4
  go_upto_region 3 with (fail)
  refine region_lit ?_
  intro ops hops
  have HB : webB ops = true := by rw [hops]; kernel_rfl
  have HACY : acyB ops = true := by rw [hops]; kernel_rfl
  have HSIZE : ops.size = 10 := by rw [hops]; rfl
  have HND1 : ∀ j, j < ops.size → dstOf ops j ≠ some 1 := noDst_spec (by rw [hops]; kernel_rfl)
  have HND3 : ∀ j, j < ops.size → dstOf ops j ≠ some 3 := noDst_spec (by rw [hops]; kernel_rfl)
  obtain ⟨w0, hw0⟩ : ∃ w0 : World, w0 = { x2 with drawn := x2.drawn + 1 } := ⟨_, rfl⟩
  have hg0 : StoG w.heap.size w1.heap.size C X w0 := StoG.trans HXG2.out (by rw [hw0]; exact StoG.below ((Below.refl _ _).drew))
  refine wp_region_web (by kernel_rfl) HB HACY (StoG w.heap.size w1.heap.size C) (valL (lendVals3 w.heap.size w.heap.size w1.heap.size ⟨Vi, Vl, Vo, Vb, Vc, Vj, Vf, Va, Vs, Vt⟩ C)) (fun _ _ _ => True) (fun _ _ _ _ => True) (fun _ _ _ _ _ _ _ _ => ⟨trivial, trivial⟩) (fun a => StoG.refl _ _ _ a) (fun a b c h1 h2 => h1.trans h2) lend_keep3 ?_ ?_
  · intro i o ho
    rw [← hw0]
    rw [hops] at ho
    match i, ho with
    | 0, ho =>
      simp only [List.getElem?_toArray, List.getElem?_cons_zero, Option.some.injEq] at ho; subst ho
      refine webStep_of HB rfl (fun f aC wz hw hd ha hv hsp K hK => ?_)
      obtain ⟨hcell, hin, hsz, cs, hcs, hcs11⟩ := HXW.out wz (hg0.trans hw)
      have e1 : aC.eval (.tmp 1) = .pointer (some ⟨w.heap.size, 0, none⟩) := (ha 1 HND1).trans rfl
      refine wp_val (v := .pointer (some ⟨w.heap.size, 5, none⟩)) (w' := wz) ?_ (hK _ _ (StoG.refl _ _ _ _) rfl trivial)
      show ((do pure (Next.value (← Instr.fieldAt 29 (aC.eval (.tmp 1)) 5)) : Sem Next)).run Try.prog wz = _
      rw [e1]
      exact run_value (field_5 _ _)
    | 1, ho =>
      simp only [List.getElem?_toArray, List.getElem?_cons_zero, List.getElem?_cons_succ, Option.some.injEq] at ho; subst ho
      refine webStep_of HB rfl (fun f aC wz hw hd ha hv hsp K hK => ?_)
      obtain ⟨hcell, hin, hsz, cs, hcs, hcs11⟩ := HXW.out wz (hg0.trans hw)
      have e1 : aC.eval (.tmp 18) = .pointer (some ⟨w.heap.size, 5, none⟩) := (hd 0 18 (by rw [hops]; kernel_rfl) (by rw [hops]; kernel_rfl) (by simp)).trans (hv 0 (by rw [hops]; kernel_rfl))
      refine wp_val (v := Vc) (w' := wz) ?_ (hK _ _ (StoG.refl _ _ _ _) rfl trivial)
      show ((do pure (Next.value (← Instr.loadAt 22 (aC.eval (.tmp 18)))) : Sem Next)).run Try.prog wz = _
      rw [e1]
      exact run_value (load_at _ load_I (hcell 5))
    | 2, ho =>
      simp only [List.getElem?_toArray, List.getElem?_cons_zero, List.getElem?_cons_succ, Option.some.injEq] at ho; subst ho
      refine webStep_of HB rfl (fun f aC wz hw hd ha hv hsp K hK => ?_)
      obtain ⟨hcell, hin, hsz, cs, hcs, hcs11⟩ := HXW.out wz (hg0.trans hw)
      have e1 : aC.eval (.tmp 19) = Vc := (hd 1 19 (by rw [hops]; kernel_rfl) (by rw [hops]; kernel_rfl) (by simp)).trans (hv 1 (by rw [hops]; kernel_rfl))
      refine wp_enter (f := 10) (args := #[Vc]) ?_ ((LendInts_any wz Vc C.constraints hin.c HR2.out.2.2.2.1).mono ?_)
      · simp [execOp, resolve, e1]; rfl
      · rintro e w' ⟨v', rfl, hl, hbel⟩
        exact ⟨v', rfl, hK v' w' (StoG.below hbel) ⟨⟨_, hcs.below hbel hcs.lt⟩, by obtain ⟨g, cap, cur, e1, h1, h2⟩ := hl; exact ⟨g, cap, cur, e1, Nat.le_trans hsz h1, h2⟩⟩ trivial⟩
    | 3, ho =>
      simp only [List.getElem?_toArray, List.getElem?_cons_zero, List.getElem?_cons_succ, Option.some.injEq] at ho; subst ho
      refine webStep_of HB rfl (fun f aC wz hw hd ha hv hsp K hK => ?_)
      obtain ⟨hcell, hin, hsz, cs, hcs, hcs11⟩ := HXW.out wz (hg0.trans hw)
      have e1 : aC.eval (.tmp 1) = .pointer (some ⟨w.heap.size, 0, none⟩) := (ha 1 HND1).trans rfl
      refine wp_val (v := .pointer (some ⟨w.heap.size, 7, none⟩)) (w' := wz) ?_ (hK _ _ (StoG.refl _ _ _ _) rfl trivial)
      show ((do pure (Next.value (← Instr.fieldAt 29 (aC.eval (.tmp 1)) 7)) : Sem Next)).run Try.prog wz = _
      rw [e1]
      exact run_value (field_7 _ _)
    | 4, ho =>
      simp only [List.getElem?_toArray, List.getElem?_cons_zero, List.getElem?_cons_succ, Option.some.injEq] at ho; subst ho
      refine webStep_of HB rfl (fun f aC wz hw hd ha hv hsp K hK => ?_)
      obtain ⟨hcell, hin, hsz, cs, hcs, hcs11⟩ := HXW.out wz (hg0.trans hw)
      have e1 : aC.eval (.tmp 21) = .pointer (some ⟨w.heap.size, 7, none⟩) := (hd 3 21 (by rw [hops]; kernel_rfl) (by rw [hops]; kernel_rfl) (by simp)).trans (hv 3 (by rw [hops]; kernel_rfl))
      refine wp_val (v := Vf) (w' := wz) ?_ (hK _ _ (StoG.refl _ _ _ _) rfl trivial)
      show ((do pure (Next.value (← Instr.loadAt 22 (aC.eval (.tmp 21)))) : Sem Next)).run Try.prog wz = _
      rw [e1]
      exact run_value (load_at _ load_I (hcell 7))
    | 5, ho =>
      simp only [List.getElem?_toArray, List.getElem?_cons_zero, List.getElem?_cons_succ, Option.some.injEq] at ho; subst ho
      refine webStep_of HB rfl (fun f aC wz hw hd ha hv hsp K hK => ?_)
      obtain ⟨hcell, hin, hsz, cs, hcs, hcs11⟩ := HXW.out wz (hg0.trans hw)
      have e1 : aC.eval (.tmp 22) = Vf := (hd 4 22 (by rw [hops]; kernel_rfl) (by rw [hops]; kernel_rfl) (by simp)).trans (hv 4 (by rw [hops]; kernel_rfl))
      refine wp_enter (f := 10) (args := #[Vf]) ?_ ((LendInts_any wz Vf C.fairness hin.f HR2.out.2.2.2.2.1).mono ?_)
      · simp [execOp, resolve, e1]; rfl
      · rintro e w' ⟨v', rfl, hl, hbel⟩
        exact ⟨v', rfl, hK v' w' (StoG.below hbel) ⟨⟨_, hcs.below hbel hcs.lt⟩, by obtain ⟨g, cap, cur, e1, h1, h2⟩ := hl; exact ⟨g, cap, cur, e1, Nat.le_trans hsz h1, h2⟩⟩ trivial⟩
    | 6, ho =>
      simp only [List.getElem?_toArray, List.getElem?_cons_zero, List.getElem?_cons_succ, Option.some.injEq] at ho; subst ho
      refine webStep_of HB rfl (fun f aC wz hw hd ha hv hsp K hK => ?_)
      obtain ⟨hcell, hin, hsz, cs, hcs, hcs11⟩ := HXW.out wz (hg0.trans hw)
      have e1 : aC.eval (.tmp 3) = .pointer (some ⟨w1.heap.size, 0, none⟩) := (ha 3 HND3).trans rfl
      refine wp_val (v := .pointer (some ⟨w1.heap.size, 5, none⟩)) (w' := wz) ?_ (hK _ _ (StoG.refl _ _ _ _) rfl trivial)
      show ((do pure (Next.value (← Instr.fieldAt 29 (aC.eval (.tmp 3)) 5)) : Sem Next)).run Try.prog wz = _
      rw [e1]
      exact run_value (field_5 _ _)
    | 7, ho =>
      simp only [List.getElem?_toArray, List.getElem?_cons_zero, List.getElem?_cons_succ, Option.some.injEq] at ho; subst ho
      refine webStep_of HB rfl (fun f aC wz hw hd ha hv hsp K hK => ?_)
      obtain ⟨hcell, hin, hsz, cs, hcs, hcs11⟩ := HXW.out wz (hg0.trans hw)
      have e1 : aC.eval (.tmp 24) = .pointer (some ⟨w1.heap.size, 5, none⟩) := (hd 6 24 (by rw [hops]; kernel_rfl) (by rw [hops]; kernel_rfl) (by simp)).trans (hv 6 (by rw [hops]; kernel_rfl))
      have e2 := hd 2 20 (by rw [hops]; kernel_rfl) (by rw [hops]; kernel_rfl) (by simp)
      have hl2 : lentV w.heap.size w1.heap.size C C.constraints (f 2) wz := hv 2 (by rw [hops]; kernel_rfl)
      have hl := hl2.2
      obtain ⟨g, cap, _, ef, _⟩ := id hl
      have hput : StoG w.heap.size w1.heap.size C wz (wz.setCell ⟨w1.heap.size, 5, none⟩ (f 2)) := StoG.store hcs (by omega) (rfl : pick5 C 5 = some C.constraints) hl
      refine wp_store_slice (.tmp 24) (.tmp 20) rfl w1.heap.size 5 (some ⟨g, 0, none⟩) C.constraints.length cap e1 (e2.trans ef) (cs[5]) (by rw [hcs.cell, Array.getElem?_eq_getElem (by omega)]) (hcs.frozen 5) ?_
      rw [← ef]
      exact hK _ _ hput ⟨_, f 2, Blk.set_ hcs 5 (f 2), by simp [hcs11], C.constraints, rfl, lent_on hl hcs hput.grown⟩ trivial
    | 8, ho =>
      simp only [List.getElem?_toArray, List.getElem?_cons_zero, List.getElem?_cons_succ, Option.some.injEq] at ho; subst ho
      refine webStep_of HB rfl (fun f aC wz hw hd ha hv hsp K hK => ?_)
      obtain ⟨hcell, hin, hsz, cs, hcs, hcs11⟩ := HXW.out wz (hg0.trans hw)
      have e1 : aC.eval (.tmp 3) = .pointer (some ⟨w1.heap.size, 0, none⟩) := (ha 3 HND3).trans rfl
      refine wp_val (v := .pointer (some ⟨w1.heap.size, 7, none⟩)) (w' := wz) ?_ (hK _ _ (StoG.refl _ _ _ _) rfl trivial)
      show ((do pure (Next.value (← Instr.fieldAt 29 (aC.eval (.tmp 3)) 7)) : Sem Next)).run Try.prog wz = _
      rw [e1]
      exact run_value (field_7 _ _)
    | 9, ho =>
      simp only [List.getElem?_toArray, List.getElem?_cons_zero, List.getElem?_cons_succ, Option.some.injEq] at ho; subst ho
      refine webStep_of HB rfl (fun f aC wz hw hd ha hv hsp K hK => ?_)
      obtain ⟨hcell, hin, hsz, cs, hcs, hcs11⟩ := HXW.out wz (hg0.trans hw)
      have e1 : aC.eval (.tmp 25) = .pointer (some ⟨w1.heap.size, 7, none⟩) := (hd 8 25 (by rw [hops]; kernel_rfl) (by rw [hops]; kernel_rfl) (by simp)).trans (hv 8 (by rw [hops]; kernel_rfl))
      have e2 := hd 5 23 (by rw [hops]; kernel_rfl) (by rw [hops]; kernel_rfl) (by simp)
      have hl2 : lentV w.heap.size w1.heap.size C C.fairness (f 5) wz := hv 5 (by rw [hops]; kernel_rfl)
      have hl := hl2.2
      obtain ⟨g, cap, _, ef, _⟩ := id hl
      have hput : StoG w.heap.size w1.heap.size C wz (wz.setCell ⟨w1.heap.size, 7, none⟩ (f 5)) := StoG.store hcs (by omega) (rfl : pick5 C 7 = some C.fairness) hl
      refine wp_store_slice (.tmp 25) (.tmp 23) rfl w1.heap.size 7 (some ⟨g, 0, none⟩) C.fairness.length cap e1 (e2.trans ef) (cs[7]) (by rw [hcs.cell, Array.getElem?_eq_getElem (by omega)]) (hcs.frozen 7) ?_
      rw [← ef]
      exact hK _ _ hput ⟨_, f 5, Blk.set_ hcs 7 (f 5), by simp [hcs11], C.fairness, rfl, lent_on hl hcs hput.grown⟩ trivial
    | n + 10, h => exact absurd h (by simp)
  intro fh x3 hw hv hsp
  rw [← hw0] at hw
  have HXG3 : Hid (StoG w.heap.size w1.heap.size C X x3) := Lib.hid (hg0.trans hw)
  have HGS3 : Hid (StoG w.heap.size w1.heap.size C x2 x3) := Lib.hid (StoG.trans (show StoG w.heap.size w1.heap.size C x2 w0 from by rw [hw0]; exact StoG.below ((Below.refl _ _).drew)) hw)
  have hp5 : putV w.heap.size w1.heap.size C 5 (fh 7) x3 := hv 7 (by rw [HSIZE]; omega)
  have HP5 := Lib.hid hp5
  have hp7 : putV w.heap.size w1.heap.size C 7 (fh 9) x3 := hv 9 (by rw [HSIZE]; omega)
  have HP7 := Lib.hid hp7
  have e : putAll ops fh (List.range ops.size) ({ tmps := #[CV.val ⟨Vi, Vl, Vo, Vb, Vc, Vj, Vf, Va, Vs, Vt⟩ m, .pointer (some ⟨w.heap.size, 0, none⟩), .pointer (some ⟨w.heap.size + 1, 0, none⟩), .pointer (some ⟨w1.heap.size, 0, none⟩), .agg #[.int .i64 m, Vi, Vl, Vo, Vb, Vc, Vj, Vf, Va, Vs, Vt], CV.val ⟨.slice i1 i2 i3, .slice l1 C.latches.length l3, .slice o1 o2 o3, .slice b1 b2 b3, .slice d1 d2 d3, .slice j1 j2 j3, .slice f1 f2 f3, .slice a1 C.ands.length a3, .slice s1 s2 s3, .slice t1 t2 t3⟩ m, f 0, f 1, f 2, f 3, f 4, f 5, f 6, f 7, f 8, f 9, f 11, f 13, undef, undef, undef, undef, undef, undef, undef, undef, undef, undef, undef, undef, undef, undef, undef, undef, undef, undef, undef, undef, undef, undef, undef, undef, undef, undef, undef, undef, undef], defers := [] } : Act) = ({ tmps := #[CV.val ⟨Vi, Vl, Vo, Vb, Vc, Vj, Vf, Va, Vs, Vt⟩ m, .pointer (some ⟨w.heap.size, 0, none⟩), .pointer (some ⟨w.heap.size + 1, 0, none⟩), .pointer (some ⟨w1.heap.size, 0, none⟩), .agg #[.int .i64 m, Vi, Vl, Vo, Vb, Vc, Vj, Vf, Va, Vs, Vt], CV.val ⟨.slice i1 i2 i3, .slice l1 C.latches.length l3, .slice o1 o2 o3, .slice b1 b2 b3, .slice d1 d2 d3, .slice j1 j2 j3, .slice f1 f2 f3, .slice a1 C.ands.length a3, .slice s1 s2 s3, .slice t1 t2 t3⟩ m, f 0, f 1, f 2, f 3, f 4, f 5, f 6, f 7, f 8, f 9, f 11, f 13, fh 0, fh 1, fh 2, fh 3, fh 4, fh 5, fh 6, fh 8, undef, undef, undef, undef, undef, undef, undef, undef, undef, undef, undef, undef, undef, undef, undef, undef, undef, undef, undef, undef, undef], defers := [] } : Act) := by rw [hops]; kernel_rfl
  rw [e]
  clear e hw hv hsp hg0 hw0 HB HACY HSIZE HND1 HND3 hops hp5 hp7
  obtain ⟨u1, u3, u4, u5, u7, hbox, hl1, hl3, hl4, hl5, hl7⟩ := sto_end (U := ⟨.slice i1 i2 i3, .slice l1 C.latches.length l3, .slice o1 o2 o3, .slice b1 b2 b3, .slice d1 d2 d3, .slice j1 j2 j3, .slice f1 f2 f3, .slice a1 C.ands.length a3, .slice s1 s2 s3, .slice t1 t2 t3⟩) HXB.out HXG3.out (putV_on _ _ _ HGS3.out HP1.out) (putV_on _ _ _ HGS3.out HP3.out) (putV_on _ _ _ HGS3.out HP4.out) HP5.out HP7.out
  have hb13 : Below w1.heap.size w1 x3 := by
    have h2 := HXG3.out.grown
    have h3 := HX1.out
    exact ⟨h2.os.trans h3.os, h2.tape.trans h3.tape, h2.output.trans h3.output, Nat.le_trans h3.size h2.size, fun k hk => (h2.block k (Nat.lt_of_lt_of_le hk h3.size) (fun e => by injection e with e; omega)).trans (h3.block k hk)⟩
  have hb03 : Below W0.heap.size W0 x3 := bt HB1.out (Nat.le_refl _) hb13
  have hc3 := HC1.out.below hb13
  have hW := HS0.out
  have hst : LdS w x3 w1.heap.size C us ⟨Vi, Vl, Vo, Vb, Vc, Vj, Vf, Va, Vs, Vt⟩ m ⟨u1, .slice l1 C.latches.length l3, u3, u4, u5, .slice j1 j2 j3, u7, .slice a1 C.ands.length a3, .slice s1 s2 s3, .slice t1 t2 t3⟩ (fun w' v => w'.ownsRow w.heap.size 70 3 v C.latches.length (C.latches.flatMap encT)) (fun w' v => w'.ownsRow w.heap.size 68 3 v C.ands.length (C.ands.flatMap encT)) := by
    refine ⟨bt HB0.out (Nat.le_refl _) hb03, HBX.out x3 hb03, ?_, hbox, hl1, hl3, hl4, hl5, hl7, hc3.j.base (by omega), own_base hc3.s (by omega), own_base hc3.t (by omega), own_base hc3.l (by omega), own_base hc3.a (by omega)⟩
    have h1 : Blk W0 (w.heap.size + 1) 29 zeroC := by
      rw [HW0.out]
      have := Blk.new (w.alloc (.cells (CV.cells ⟨Vi, Vl, Vo, Vb, Vc, Vj, Vf, Va, Vs, Vt⟩ m) 29)) 29 zeroC
      rw [show (w.alloc (.cells (CV.cells ⟨Vi, Vl, Vo, Vb, Vc, Vj, Vf, Va, Vs, Vt⟩ m) 29)).heap.size = w.heap.size + 1 by simp] at this
      exact this
    exact h1.below hb03 h1.lt
  have HST := Lib.hid hst
  obtain ⟨Al, cl, el, hll1, hll2, _⟩ := (HIN.out x3 hb03).l
  obtain ⟨Aa, ca, ea, haa1, haa2, _⟩ := (HIN.out x3 hb03).a
  simp only at el ea
  subst el ea
  obtain ⟨g1, cap1, _, e1, _⟩ := hl1
  obtain ⟨g3, cap3, _, e3, _⟩ := hl3
  obtain ⟨g4, cap4, _, e4, _⟩ := hl4
  obtain ⟨g5, cap5, _, e5, _⟩ := hl5
  obtain ⟨g7, cap7, _, e7, _⟩ := hl7
  subst e1 e3 e4 e5 e7
  obtain ⟨iL, hiL, hL0, hL1, hL2⟩ := info_of2 infoL2
  obtain ⟨iA, hiA, hA0, hA1, hA2⟩ := info_of2 infoA2
  have HNE : Hid (w1.heap.size ≠ w.heap.size ∧ w1.heap.size ≠ w.heap.size + 1) := Lib.hid (by have := HSZ1.out; omega)
  have hne1 : w1.heap.size ≠ w.heap.size := HNE.out.1
  have hne2 : w.heap.size ≠ w1.heap.size := Ne.symm HNE.out.1
  have hsl : C.latches.length * 24 + 24 ≤ 140737488355328 := by have := HR2.out.2.2.2.2.2.1; omega
  have hsa : C.ands.length * 24 + 24 ≤ 140737488355328 := by have := HR2.out.2.2.2.2.2.2; omega
  clear hbox hb13 hb03 hc3 hst hll1 hll2 haa1 haa2 hW
  go_upto_region 4 with (fail)
  go_cut [34] (fun v34 wx => ∃ g cap, C.latches.length + 1 ≤ cap ∧ v34 = .slice (some ⟨g, 0, none⟩) C.latches.length cap ∧ LdS w wx w1.heap.size C us ⟨Vi, .slice Al C.latches.length cl, Vo, Vb, Vc, Vj, Vf, .slice Aa C.ands.length ca, Vs, Vt⟩ m ⟨.slice (some ⟨g1, 0, none⟩) C.inputs.length cap1, .slice (some ⟨g, 0, none⟩) C.latches.length cap, .slice (some ⟨g3, 0, none⟩) C.outputs.length cap3, .slice (some ⟨g4, 0, none⟩) C.bads.length cap4, .slice (some ⟨g5, 0, none⟩) C.constraints.length cap5, .slice j1 j2 j3, .slice (some ⟨g7, 0, none⟩) C.fairness.length cap7, .slice a1 C.ands.length a3, .slice s1 s2 s3, .slice t1 t2 t3⟩ (fun w' v => LentT w' w.heap.size 70 v C.latches) (fun w' v => w'.ownsRow w.heap.size 68 3 v C.ands.length (C.ands.flatMap encT)))
  case first =>
    obtain ⟨c0, c1, c2, c3, c4, c5, c6, c7, c8, c9, c10⟩ := box_of HST.out.box1
    obtain ⟨d0, d1', d2', d3', d4, d5, d6, d7, d8, d9, d10⟩ := box_of HST.out.box
    have fz := Blk.frozen HST.out.box 2
    have kx2 : (x3.alloc (.cells #[.int .i64 (-77), .int .i64 0, .int .i64 0] 70)).cell? ⟨w.heap.size, 2, none⟩ = some (.slice Al C.latches.length cl) := (HST.out.box1.alloc _).cell 2
    have kb2 : (x3.alloc (.cells #[.int .i64 (-77), .int .i64 0, .int .i64 0] 70)).cell? ⟨w1.heap.size, 2, none⟩ = some (.slice l1 C.latches.length l3) := (HST.out.box.alloc _).cell 2
    have fz2 := Blk.frozen (HST.out.box.alloc (.cells #[.int .i64 (-77), .int .i64 0, .int .i64 0] 70)) 2
    clear c0 c1 c3 c4 c5 c6 c7 c8 c9 c10 d0 d1' d3' d4 d5 d6 d7 d8 d9 d10
    have hstD : LdS w x3.drew w1.heap.size C us ⟨Vi, .slice Al C.latches.length cl, Vo, Vb, Vc, Vj, Vf, .slice Aa C.ands.length ca, Vs, Vt⟩ m ⟨.slice (some ⟨g1, 0, none⟩) C.inputs.length cap1, .slice l1 C.latches.length l3, .slice (some ⟨g3, 0, none⟩) C.outputs.length cap3, .slice (some ⟨g4, 0, none⟩) C.bads.length cap4, .slice (some ⟨g5, 0, none⟩) C.constraints.length cap5, .slice j1 j2 j3, .slice (some ⟨g7, 0, none⟩) C.fairness.length cap7, .slice a1 C.ands.length a3, .slice s1 s2 s3, .slice t1 t2 t3⟩ (fun w' v => w'.ownsRow w.heap.size 70 3 v C.latches.length (C.latches.flatMap encT)) (fun w' v => w'.ownsRow w.heap.size 68 3 v C.ands.length (C.ands.flatMap encT)) := HST.out.on_below ((Below.refl _ _).drew) (own_below HST.out.l ((Below.refl _ _).drew)) (own_below HST.out.a ((Below.refl _ _).drew))
    have HSD := Lib.hid hstD
    have HOL : Hid ((x3.drew.alloc (.cells #[.int .i64 (-77), .int .i64 0, .int .i64 0] 70)).ownsRow w.heap.size 70 3 (.slice l1 C.latches.length l3) C.latches.length (C.latches.flatMap encT)) := Lib.hid (by have := hstD.l.alloc (.cells #[.int .i64 (-77), .int .i64 0, .int .i64 0] 70); exact this)
    clear hstD
    go_region_law ((first
        | (refine step_append_any _ rfl (.tmp 27) (.tmp 29) _ rfl w.heap.size 70 iL _ 3 24 Try.underlying23 hiL hL0 hL1 hL2 rfl (by omega) (.slice l1 C.latches.length l3) C.latches.length (C.latches.flatMap encT) (by simp [Act.eval, Act.put]) HOL.out (x3.drew.heap.size + 1) (some ⟨x3.drew.heap.size, 0, none⟩) 1 1 [.int .i64 (-77), .int .i64 0, .int .i64 0] (by simp [Act.eval, Act.put]) (reads_three x3.drew _ _ _ _) (by simp [Value.oneCell']) (by simp only [maxLen]; omega) (by omega) (by have := HST.out.below.size; first | (simp; done) | (simp; omega)) ?_; intro v6 w6 hown6 hg6 hat6; obtain ⟨g6, cp6, rfl, hn6, hm6, hx6, hb6, hst6⟩ := LdS.appL HSD.out (by have := HSZ1.out; omega) HNE.out (fun w1 w2 v hk h => hk.own h (by decide)) (fun w1 v k u hb h => own_setC hb (by decide) h) hg6 hown6; have HST6 := Lib.hid hst6; have kc6 : w6.cell? ⟨w.heap.size, 2, none⟩ = some (.slice Al C.latches.length cl) := hx6.cell 2; have k6 : w6.cell? ⟨w1.heap.size, 2, none⟩ = some (.slice l1 C.latches.length l3) := hb6.cell 2; have kf6 := Blk.frozen hb6 2; have hq1 := Nat.le_of_succ_le hn6; have hq2 : (C.latches.length : Int) ≤ (cp6 : Int) := Int.ofNat_le.2 hq1; have hq3 : (0 : Int) ≤ (C.latches.length : Int) := Int.natCast_nonneg _; clear hx6 hb6 hst6 hg6 hown6 hat6)))
    all_goals (
      go_wp2_with fail
      go_meet)
    all_goals (exact ⟨g6, cp6, hn6, rfl, HST6.out⟩)
  case rest =>
    obtain ⟨gL, cL, hcL, rfl, hst4⟩ := hcut
    have HSE := Lib.hid hst4
    clear hst4
    go_upto_region 5 with (fail)
    go_cut [44] (fun v44 wx => ∃ g cap, C.ands.length + 1 ≤ cap ∧ v44 = .slice (some ⟨g, 0, none⟩) C.ands.length cap ∧ LdS w wx w1.heap.size C us ⟨Vi, .slice Al C.latches.length cl, Vo, Vb, Vc, Vj, Vf, .slice Aa C.ands.length ca, Vs, Vt⟩ m ⟨.slice (some ⟨g1, 0, none⟩) C.inputs.length cap1, .slice (some ⟨gL, 0, none⟩) C.latches.length cL, .slice (some ⟨g3, 0, none⟩) C.outputs.length cap3, .slice (some ⟨g4, 0, none⟩) C.bads.length cap4, .slice (some ⟨g5, 0, none⟩) C.constraints.length cap5, .slice j1 j2 j3, .slice (some ⟨g7, 0, none⟩) C.fairness.length cap7, .slice (some ⟨g, 0, none⟩) C.ands.length cap, .slice s1 s2 s3, .slice t1 t2 t3⟩ (fun w' v => LentT w' w.heap.size 70 v C.latches) (fun w' v => LentT w' w.heap.size 68 v C.ands))
    case first =>
      obtain ⟨c0, c1, c2, c3, c4, c5, c6, c7, c8, c9, c10⟩ := box_of HSE.out.box1
      obtain ⟨d0, d1', d2', d3', d4, d5, d6, d7, d8, d9, d10⟩ := box_of HSE.out.box
      have fz := Blk.frozen HSE.out.box 8
      have kx2 : (wc.alloc (.cells #[.int .i64 (-77), .int .i64 0, .int .i64 0] 68)).cell? ⟨w.heap.size, 8, none⟩ = some (.slice Aa C.ands.length ca) := (HSE.out.box1.alloc _).cell 8
      have kb2 : (wc.alloc (.cells #[.int .i64 (-77), .int .i64 0, .int .i64 0] 68)).cell? ⟨w1.heap.size, 8, none⟩ = some (.slice a1 C.ands.length a3) := (HSE.out.box.alloc _).cell 8
      have fz2 := Blk.frozen (HSE.out.box.alloc (.cells #[.int .i64 (-77), .int .i64 0, .int .i64 0] 68)) 2
      clear c0 c1 c2 c3 c4 c5 c6 c7 c9 c10 d0 d1' d2' d3' d4 d5 d6 d7 d9 d10
      have hstF : LdS w wc.drew w1.heap.size C us ⟨Vi, .slice Al C.latches.length cl, Vo, Vb, Vc, Vj, Vf, .slice Aa C.ands.length ca, Vs, Vt⟩ m ⟨.slice (some ⟨g1, 0, none⟩) C.inputs.length cap1, .slice (some ⟨gL, 0, none⟩) C.latches.length cL, .slice (some ⟨g3, 0, none⟩) C.outputs.length cap3, .slice (some ⟨g4, 0, none⟩) C.bads.length cap4, .slice (some ⟨g5, 0, none⟩) C.constraints.length cap5, .slice j1 j2 j3, .slice (some ⟨g7, 0, none⟩) C.fairness.length cap7, .slice a1 C.ands.length a3, .slice s1 s2 s3, .slice t1 t2 t3⟩ (fun w' v => LentT w' w.heap.size 70 v C.latches) (fun w' v => w'.ownsRow w.heap.size 68 3 v C.ands.length (C.ands.flatMap encT)) := HSE.out.on_below ((Below.refl _ _).drew) (HSE.out.l.below ((Below.refl _ _).drew)) (own_below HSE.out.a ((Below.refl _ _).drew))
      have HSF := Lib.hid hstF
      have HOA : Hid ((wc.drew.alloc (.cells #[.int .i64 (-77), .int .i64 0, .int .i64 0] 68)).ownsRow w.heap.size 68 3 (.slice a1 C.ands.length a3) C.ands.length (C.ands.flatMap encT)) := Lib.hid (by have := hstF.a.alloc (.cells #[.int .i64 (-77), .int .i64 0, .int .i64 0] 68); exact this)
      clear hstF
      go_region_law ((first
          | (refine step_append_any _ rfl (.tmp 37) (.tmp 39) _ rfl w.heap.size 68 iA _ 3 24 Try.underlying25 hiA hA0 hA1 hA2 rfl (by omega) (.slice a1 C.ands.length a3) C.ands.length (C.ands.flatMap encT) (by simp [Act.eval, Act.put]) HOA.out (wc.drew.heap.size + 1) (some ⟨wc.drew.heap.size, 0, none⟩) 1 1 [.int .i64 (-77), .int .i64 0, .int .i64 0] (by simp [Act.eval, Act.put]) (reads_three wc.drew _ _ _ _) (by simp [Value.oneCell']) (by simp only [maxLen]; omega) (by omega) (by have := HSE.out.below.size; first | (simp; done) | (simp; omega)) ?_; intro v6 w6 hown6 hg6 hat6; obtain ⟨g6, cp6, rfl, hn6, hm6, hx6, hb6, hst6⟩ := LdS.appA HSF.out (by have := HSZ1.out; omega) HNE.out (fun w1 w2 v hk h => hk.lentT h (by decide)) (fun w1 v k u hb h => lentT_set hb (by decide) h) hg6 hown6; have HST6 := Lib.hid hst6; have kc6 : w6.cell? ⟨w.heap.size, 8, none⟩ = some (.slice Aa C.ands.length ca) := hx6.cell 8; have k6 : w6.cell? ⟨w1.heap.size, 8, none⟩ = some (.slice a1 C.ands.length a3) := hb6.cell 8; have kf6 := Blk.frozen hb6 8; have hq1 := Nat.le_of_succ_le hn6; have hq2 : (C.ands.length : Int) ≤ (cp6 : Int) := Int.ofNat_le.2 hq1; have hq3 : (0 : Int) ≤ (C.ands.length : Int) := Int.natCast_nonneg _; clear hx6 hb6 hst6 hg6 hown6 hat6)))
      all_goals (
        go_wp2_with fail
        go_meet)
      all_goals (exact ⟨g6, cp6, hn6, rfl, HST6.out⟩)
    case rest =>
      obtain ⟨gA, cA, hcA, rfl, hst5⟩ := hcut
      have HSG := Lib.hid hst5
      clear hst5
      go_upto_region 6 with (fail)
      obtain ⟨d0, d1', d2', d3', d4, d5, d6, d7, d8, d9, d10⟩ := box_of HSG.out.box
      obtain ⟨z0, z1, z2, z3, z4, z5, z6, z7, z8, z9, z10⟩ := box_of (show Blk wc (w.heap.size + 1) 29 #[.int .i64 0, .slice none 0 0, .slice none 0 0, .slice none 0 0, .slice none 0 0, .slice none 0 0, .slice none 0 0, .slice none 0 0, .slice none 0 0, .slice none 0 0, .slice none 0 0] from HSG.out.res)
      obtain ⟨y0, y1, y2, y3, y4, y5, y6, y7, y8, y9, y10⟩ := blk_frozen11 HSG.out.res
      have hR9 : Blk (set11 wc (w.heap.size + 1) (.int .i64 m) (.slice (some ⟨g1, 0, none⟩) C.inputs.length cap1) (.slice (some ⟨gL, 0, none⟩) C.latches.length cL) (.slice (some ⟨g3, 0, none⟩) C.outputs.length cap3) (.slice (some ⟨g4, 0, none⟩) C.bads.length cap4) (.slice (some ⟨g5, 0, none⟩) C.constraints.length cap5) (.slice j1 j2 j3) (.slice (some ⟨g7, 0, none⟩) C.fairness.length cap7) (.slice (some ⟨gA, 0, none⟩) C.ands.length cA) (.slice s1 s2 s3) (.slice t1 t2 t3)) (w.heap.size + 1) 29 #[.int .i64 m, .slice (some ⟨g1, 0, none⟩) C.inputs.length cap1, .slice (some ⟨gL, 0, none⟩) C.latches.length cL, .slice (some ⟨g3, 0, none⟩) C.outputs.length cap3, .slice (some ⟨g4, 0, none⟩) C.bads.length cap4, .slice (some ⟨g5, 0, none⟩) C.constraints.length cap5, .slice j1 j2 j3, .slice (some ⟨g7, 0, none⟩) C.fairness.length cap7, .slice (some ⟨gA, 0, none⟩) C.ands.length cA, .slice s1 s2 s3, .slice t1 t2 t3] := set11_blk (show Blk wc (w.heap.size + 1) 29 #[.int .i64 0, .slice none 0 0, .slice none 0 0, .slice none 0 0, .slice none 0 0, .slice none 0 0, .slice none 0 0, .slice none 0 0, .slice none 0 0, .slice none 0 0, .slice none 0 0] from HSG.out.res) (.int .i64 m) (.slice (some ⟨g1, 0, none⟩) C.inputs.length cap1) (.slice (some ⟨gL, 0, none⟩) C.latches.length cL) (.slice (some ⟨g3, 0, none⟩) C.outputs.length cap3) (.slice (some ⟨g4, 0, none⟩) C.bads.length cap4) (.slice (some ⟨g5, 0, none⟩) C.constraints.length cap5) (.slice j1 j2 j3) (.slice (some ⟨g7, 0, none⟩) C.fairness.length cap7) (.slice (some ⟨gA, 0, none⟩) C.ands.length cA) (.slice s1 s2 s3) (.slice t1 t2 t3)
      have hB9 : Below w.heap.size w (set11 wc (w.heap.size + 1) (.int .i64 m) (.slice (some ⟨g1, 0, none⟩) C.inputs.length cap1) (.slice (some ⟨gL, 0, none⟩) C.latches.length cL) (.slice (some ⟨g3, 0, none⟩) C.outputs.length cap3) (.slice (some ⟨g4, 0, none⟩) C.bads.length cap4) (.slice (some ⟨g5, 0, none⟩) C.constraints.length cap5) (.slice j1 j2 j3) (.slice (some ⟨g7, 0, none⟩) C.fairness.length cap7) (.slice (some ⟨gA, 0, none⟩) C.ands.length cA) (.slice s1 s2 s3) (.slice t1 t2 t3)) := set11_below HSG.out.below (Nat.le_succ _) (.int .i64 m) (.slice (some ⟨g1, 0, none⟩) C.inputs.length cap1) (.slice (some ⟨gL, 0, none⟩) C.latches.length cL) (.slice (some ⟨g3, 0, none⟩) C.outputs.length cap3) (.slice (some ⟨g4, 0, none⟩) C.bads.length cap4) (.slice (some ⟨g5, 0, none⟩) C.constraints.length cap5) (.slice j1 j2 j3) (.slice (some ⟨g7, 0, none⟩) C.fairness.length cap7) (.slice (some ⟨gA, 0, none⟩) C.ands.length cA) (.slice s1 s2 s3) (.slice t1 t2 t3)
      have hO9 : ∀ k, k ≠ w.heap.size + 1 → (set11 wc (w.heap.size + 1) (.int .i64 m) (.slice (some ⟨g1, 0, none⟩) C.inputs.length cap1) (.slice (some ⟨gL, 0, none⟩) C.latches.length cL) (.slice (some ⟨g3, 0, none⟩) C.outputs.length cap3) (.slice (some ⟨g4, 0, none⟩) C.bads.length cap4) (.slice (some ⟨g5, 0, none⟩) C.constraints.length cap5) (.slice j1 j2 j3) (.slice (some ⟨g7, 0, none⟩) C.fairness.length cap7) (.slice (some ⟨gA, 0, none⟩) C.ands.length cA) (.slice s1 s2 s3) (.slice t1 t2 t3)).heap[k]? = wc.heap[k]? := fun k hk => set11_other hk (.int .i64 m) (.slice (some ⟨g1, 0, none⟩) C.inputs.length cap1) (.slice (some ⟨gL, 0, none⟩) C.latches.length cL) (.slice (some ⟨g3, 0, none⟩) C.outputs.length cap3) (.slice (some ⟨g4, 0, none⟩) C.bads.length cap4) (.slice (some ⟨g5, 0, none⟩) C.constraints.length cap5) (.slice j1 j2 j3) (.slice (some ⟨g7, 0, none⟩) C.fairness.length cap7) (.slice (some ⟨gA, 0, none⟩) C.ands.length cA) (.slice s1 s2 s3) (.slice t1 t2 t3)
      obtain ⟨wq, hwq⟩ : ∃ wq, wq = (set11 wc (w.heap.size + 1) (.int .i64 m) (.slice (some ⟨g1, 0, none⟩) C.inputs.length cap1) (.slice (some ⟨gL, 0, none⟩) C.latches.length cL) (.slice (some ⟨g3, 0, none⟩) C.outputs.length cap3) (.slice (some ⟨g4, 0, none⟩) C.bads.length cap4) (.slice (some ⟨g5, 0, none⟩) C.constraints.length cap5) (.slice j1 j2 j3) (.slice (some ⟨g7, 0, none⟩) C.fairness.length cap7) (.slice (some ⟨gA, 0, none⟩) C.ands.length cA) (.slice s1 s2 s3) (.slice t1 t2 t3)) := ⟨_, rfl⟩
      rw [← hwq] at hR9 hB9 hO9
      unfold set11 at hwq
      have HR9 := Lib.hid hR9
      have HB9 := Lib.hid hB9
      have HO9 := Lib.hid hO9
      have HWQ := Lib.hid hwq
      clear hR9 hB9 hO9 hwq
      go_wp2
      rw [← HWQ.out]
      refine bodyPost_ret (results_cell_row (fn := Try.f9) rfl _ wq (w.heap.size + 1) 29 #[.int .i64 m, .slice (some ⟨g1, 0, none⟩) C.inputs.length cap1, .slice (some ⟨gL, 0, none⟩) C.latches.length cL, .slice (some ⟨g3, 0, none⟩) C.outputs.length cap3, .slice (some ⟨g4, 0, none⟩) C.bads.length cap4, .slice (some ⟨g5, 0, none⟩) C.constraints.length cap5, .slice j1 j2 j3, .slice (some ⟨g7, 0, none⟩) C.fairness.length cap7, .slice (some ⟨gA, 0, none⟩) C.ands.length cA, .slice s1 s2 s3, .slice t1 t2 t3] (0, 0) _ rfl HR9.out Try.underlying29 rfl (by kernel_rfl)) rfl ?_
      have hst := HSG.out
      have keep : ∀ {t : TypeId} {k n : Nat} {v : Value} {xs : List Value}, wc.ownsRow w.heap.size t k v n xs → t ≠ 29 → wq.ownsRow w.heap.size t k v n xs := fun ho ht =>
        own_of_block ho fun g hg => HO9.out g (fun e => own_blk_ne ho hst.res ht (by rw [hg, e]))
      have keepL : ∀ {v : Value} {zs : List Int}, Lent wc w.heap.size v zs → Lent wq w.heap.size v zs := fun hl => by
        obtain ⟨g, cap, cur, e, hB, hg, hx⟩ := hl
        exact ⟨g, cap, cur, e, hB, (HO9.out g (fun e => Blk.ne_ (show Blk wc g 3 cur from hg) hst.res (by decide) e)).trans hg, hx⟩
      have keepT : ∀ {t : TypeId} {v : Value} {zs : List Tri}, LentT wc w.heap.size t v zs → t ≠ 29 → LentT wq w.heap.size t v zs := fun hl ht => by
        obtain ⟨g, cap, cur, e, hB, hg, hx⟩ := hl
        exact ⟨g, cap, cur, e, hB, (HO9.out g (fun e => Blk.ne_ (show Blk wc g _ cur from hg) hst.res ht e)).trans hg, hx⟩
      exact ⟨⟨.slice (some ⟨g1, 0, none⟩) C.inputs.length cap1, .slice (some ⟨gL, 0, none⟩) C.latches.length cL, .slice (some ⟨g3, 0, none⟩) C.outputs.length cap3, .slice (some ⟨g4, 0, none⟩) C.bads.length cap4, .slice (some ⟨g5, 0, none⟩) C.constraints.length cap5, .slice j1 j2 j3, .slice (some ⟨g7, 0, none⟩) C.fairness.length cap7, .slice (some ⟨gA, 0, none⟩) C.ands.length cA, .slice s1 s2 s3, .slice t1 t2 t3⟩, rfl, HB9.out, us, ⟨keepL hst.i, keepT hst.l (by decide), keepL hst.o, keepL hst.b', keepL hst.c, ⟨hst.j.ul, keep hst.j.own (by decide), fun i u zs hu hz => keep (hst.j.each i u zs hu hz) (by decide)⟩, keepL hst.f, keepT hst.a (by decide), keep hst.s (by decide), keep hst.t (by decide)⟩⟩
end Go.Proofs.Ytdodhbfplglbkaa

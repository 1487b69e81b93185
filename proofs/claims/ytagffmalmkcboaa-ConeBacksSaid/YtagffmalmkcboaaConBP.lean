/- PROVED HERE: ConeBacks: for every circuit, cut, trace and lemma the statement's Go function returns true and leaves its arguments as they were. No condition. -/
import Derived.Test.YtagffmalmkcboaaConB
import Derived.Test.YtagffmalmkcboaaArgS
namespace Go.Proofs.Ytagffmalmkcboaa
open Go.ChangeShapes Go.WideShapes Go.ChangeAt Go.RowKit

section
variable {H : Type} {enc : TypeId × Value → H} {W : World}
set_option maxRecDepth 10000 in
set_option maxHeartbeats 1000000 in
/-- A trace among other cells. -/
theorem cell_traceK {l : List Value} {n : Nat} {y : DataW H × List MemPlace} (hcl : l.length = 3) (hf : DataW.trod enc Try.prog W 0 (fun _ => true) true n 49 l = some y) (hlt : ∀ x ∈ y.2, x.block < W.heap.size)
    (hsz : (y.1.weights Try.prog 49).all (· ≤ reachBytes) = true) : ∃ (U : TV) (t : Tr), l = [U.i, U.r, .int .i64 t.loop] ∧ t.In W U ∧ t.Reach := by
  obtain ⟨xs, n, _, hx, hl, hxl, hfi⟩ := DataW.trod_struct Try.underlying49 hf
  obtain ⟨d, ps⟩ := y
  simp only [Prod.mk.injEq] at hx
  obtain ⟨rfl, rfl⟩ := hx
  match l, hcl with
  | [c0, c1, c2], _ =>
  match xs, hxl with
  | [y0, y1, y2], _ =>
  have f0 := hfi 0 _ rfl
  have f1 := hfi 1 _ rfl
  have f2 := hfi 2 _ rfl
  simp [one_int, one_bools, show Try.prog.cellsOf 47 = 1 by kernel_rfl] at f0 f1 f2
  have hlt' : ∀ y ∈ [y0, y1, y2], ∀ x ∈ y.2, x.block < W.heap.size := fun y hy x hxy => hlt x (List.mem_flatMap.2 ⟨y, hy, hxy⟩)
  simp only [] at hsz
  rw [DataW.weights, Try.underlying49] at hsz
  obtain ⟨v0, zi, e0, ri, di⟩ := arg_run (enc' := encO) (Q := fun _ _ => True) Try.underlying46 one_bool lenO (by omega) (fun cs n x _ h _ => cell_boolS h) f0 (hlt' y0 (by simp))
  obtain ⟨v1, vs, e1, rj, dj⟩ := arg_run (enc' := encV) (Q := fun u x => ∃ zs, RowE 1 encO W u zs ∧ ReadsAs (fun _ _ => True) x zs) Try.underlying47 one_bools lenV (by omega) (fun cs n x hl h hx => by
    obtain ⟨v, zs, e, h1, h2⟩ := arg_run (enc' := encO) (Q := fun _ _ => True) Try.underlying46 one_bool lenO (by omega) (fun cs n x _ h _ => cell_boolS h) h hx
    exact ⟨v, e, zs, h1, h2⟩) f1 (hlt' y1 (by simp))
  obtain ⟨lp, e2, hlp⟩ := cell_int f2
  simp only [encI, List.cons.injEq, and_true] at e0 e1 e2
  subst e0 e1 e2
  have wi := list_allR Try.underlying46 (b := 1) (by kernel_rfl) di (each_all hsz (j := 0) rfl rfl)
  have wj := list_allR Try.underlying47 (b := 24) (by kernel_rfl) dj (each_all hsz (j := 1) rfl rfl)
  have hjj : ∀ i, i < vs.length → ∃ js : List Bool, RowE 1 encO W (vs.getD i undef) js ∧ js.length ≤ 140737488351232 := fun i hi => by
    have hu := List.getElem?_eq_getElem hi
    obtain ⟨x, ⟨js, h1, h2⟩, h3⟩ := wj.2 i _ hu
    have h4 := list_allR Try.underlying46 (b := 1) (by kernel_rfl) h2 h3
    exact ⟨js, by simpa [List.getD, hu] using h1, by simpa using h4.1⟩
  obtain ⟨J, hJ⟩ := Go.Deep.choose_lt hjj
  refine ⟨⟨c0, c1⟩, ⟨zi, (List.range vs.length).map J, lp⟩, rfl, ⟨ri, ⟨vs, rj, by simp, fun i u q hu hq => ?_⟩⟩, ⟨by simpa using wi.1, by simpa using wj.1, fun q hq => ?_, hlp⟩⟩
  · have hi : i < vs.length := (List.getElem?_eq_some_iff.1 hu).1
    simp [hi] at hq
    subst hq
    have := (hJ i hi).1
    simpa [List.getD, hu] using this
  · obtain ⟨i, hi, rfl⟩ := List.mem_map.1 hq
    exact (hJ i (List.mem_range.1 hi)).2
theorem cell_irowK {ty : TypeId} (hty : Try.prog.underlying ty = some (.slice 3)) {c : Value} {n : Nat} {y : DataW H × List MemPlace} (h : DataW.trod enc Try.prog W 0 (fun _ => true) true n ty [c] = some y) (hlt : ∀ x ∈ y.2, x.block < W.heap.size)
    (hsz : (y.1.weights Try.prog ty).all (· ≤ reachBytes) = true) : ∃ zs, RowE 1 encI W c zs ∧ zs.length * 8 ≤ 140737488351232 ∧ ∀ z ∈ zs, I64 z := by
  obtain ⟨v', zs, e, h1, h2⟩ := arg_run (enc' := encI) (Q := fun z _ => I64 z) hty one_int lenI (by omega) (fun cs n x _ h _ => cell_int h) h hlt
  simp only [List.cons.injEq, and_true] at e
  subst e
  have h3 := list_allR hty (b := 8) (by kernel_rfl) h2 hsz
  exact ⟨zs, h1, by simpa using h3.1, mem_get (fun i z hz => by obtain ⟨x, h, _⟩ := h3.2 i z hz; exact h)⟩
set_option maxRecDepth 10000 in
set_option maxHeartbeats 2000000 in
/-- A cut, a trace and a lemma that are handed in. -/
theorem arg_back {base : Nat} {v : Value} {d : DataW H} {ps : List MemPlace}
    (hval : Value.okWide Try.prog W .any base 52 v) (h : DataW.Trod enc Try.prog W 0 (fun _ => true) true 52 v d ps) (hlt : ∀ x ∈ ps, x.block < W.heap.size)
    (hsz : (d.weights Try.prog 52).all (· ≤ reachBytes) = true) :
    ∃ (X : CV) (mx : Int) (lv iv tv : Value) (L I T : List Int) (U : TV) (t : Tr) (u : Value) (M : List Int), v = .agg (backCells X mx lv iv tv U t.loop u) ∧ BackIn W lv iv tv u L I T M U t := by
  obtain ⟨cs, rfl, hcs⟩ := okWide_struct Try.underlying52 hval
  obtain ⟨fuel, hf⟩ := h
  obtain ⟨xs, n, _, hx, hl, hxl, hfi⟩ := DataW.trod_struct Try.underlying52 hf
  simp only [Prod.mk.injEq] at hx
  obtain ⟨rfl, rfl⟩ := hx
  have hcl : cs.size = 18 := by rw [hcs]; kernel_rfl
  obtain ⟨l⟩ := cs
  match l, hcl with
  | [c0, c1, c2, c3, c4, c5, c6, c7, c8, c9, c10, c11, c12, c13, c14, c15, c16, c17], _ =>
  match xs, hxl with
  | [y0, y1, y2], _ =>
  have f0 := hfi 0 _ rfl
  have f1 := hfi 1 _ rfl
  have f2 := hfi 2 _ rfl
  simp [Value.cells, show Try.prog.cellsOf 34 = 14 by kernel_rfl, show Try.prog.cellsOf 49 = 3 by kernel_rfl, show Try.prog.cellsOf 50 = 1 by kernel_rfl] at f0 f1 f2
  have hlt' : ∀ y ∈ [y0, y1, y2], ∀ x ∈ y.2, x.block < W.heap.size := fun y hy x hxy => hlt x (List.mem_flatMap.2 ⟨y, hy, hxy⟩)
  rw [DataW.weights, Try.underlying52] at hsz
  obtain ⟨U, t, et, ht, hr⟩ := cell_traceK rfl f1 (hlt' y1 (by simp)) (each_all hsz (j := 1) rfl rfl)
  obtain ⟨M, hM, hM1, hM2⟩ := cell_irowK Try.underlying50 f2 (hlt' y2 (by simp)) (each_all hsz (j := 2) rfl rfl)
  have hs0 := each_all hsz (j := 0) rfl rfl
  have hlt0 := hlt' y0 (by simp)
  obtain ⟨d0, p0⟩ := y0
  obtain ⟨zs, m, _, hz, _, hzl, hzi⟩ := DataW.trod_struct Try.underlying34 f0
  simp only [Prod.mk.injEq] at hz
  obtain ⟨rfl, rfl⟩ := hz
  simp only [] at hs0
  rw [DataW.weights, Try.underlying34] at hs0
  match zs, hzl with
  | [x0, x1, x2, x3], _ =>
  have g0 := hzi 0 _ rfl
  have g1 := hzi 1 _ rfl
  have g2 := hzi 2 _ rfl
  have g3 := hzi 3 _ rfl
  simp [show Try.prog.cellsOf 29 = 11 by kernel_rfl, one_ints] at g0 g1 g2 g3
  have hlt'' : ∀ y ∈ [x0, x1, x2, x3], ∀ x ∈ y.2, x.block < W.heap.size := fun y hy x hxy => hlt0 x (List.mem_flatMap.2 ⟨y, hy, hxy⟩)
  obtain ⟨L, hL, _, hL2⟩ := cell_irowK Try.underlying22 g1 (hlt'' x1 (by simp)) (each_all hs0 (j := 1) rfl rfl)
  obtain ⟨I, hI, _, hI2⟩ := cell_irowK Try.underlying22 g2 (hlt'' x2 (by simp)) (each_all hs0 (j := 2) rfl rfl)
  obtain ⟨T, hT, _, hT2⟩ := cell_irowK Try.underlying22 g3 (hlt'' x3 (by simp)) (each_all hs0 (j := 3) rfl rfl)
  obtain ⟨q0, r0⟩ := x0
  obtain ⟨ws, k, _, hw, _, hwl, hwi⟩ := DataW.trod_struct Try.underlying29 g0
  match ws, hwl with
  | [u0, u1, u2, u3, u4, u5, u6, u7, u8, u9, u10], _ =>
  have k0 := hwi 0 _ rfl
  simp [one_int] at k0
  obtain ⟨mx, e0, _⟩ := cell_int k0
  simp only [encI, List.cons.injEq, and_true] at e0 et
  obtain ⟨rfl, rfl, rfl⟩ := et
  subst e0
  exact ⟨⟨c1, c2, c3, c4, c5, c6, c7, c8, c9, c10⟩, mx, c11, c12, c13, L, I, T, U, t, c17, M, rfl, hL, hI, hT, hM, ht, hr, hM1, hM2, hL2, hI2, hT2⟩
end
set_option maxRecDepth 100000 in
theorem coneBacks_lifted (os : Os) (started : os.Started) (H : Type) (enc : TypeId × Value → H) :
    ReturnsInHanded {} Try.checked os 4 .any (Rows.coneBacksSpec.pre6 enc Try.prog Try.f4 Rows.coneBacksRow.domain false) (Rows.coneBacksSpec.post enc Try.prog Try.f4 false true false false) := by
  refine returnsInHanded_of_change_sized (C := Try.checked) ownNone started (by kernel_rfl) Try.func4
    (ChangeSpec.witness6 (enc := enc) (C := Try.checked) false ⟨#[], #[.agg #[.int .i64 0, .slice none 0 0, .slice none 0 0, .slice none 0 0, .slice none 0 0, .slice none 0 0, .slice none 0 0, .slice none 0 0, .slice none 0 0, .slice none 0 0, .slice none 0 0], .agg #[.int .i64 0, .slice none 0 0, .slice none 0 0, .slice none 0 0, .slice none 0 0, .slice none 0 0, .slice none 0 0, .slice none 0 0, .slice none 0 0, .slice none 0 0, .slice none 0 0, .slice none 0 0, .slice none 0 0, .slice none 0 0, .slice none 0 0, .slice none 0 0, .int .i64 0, .slice none 0 0]], []⟩ 8 (by kernel_rfl) (by kernel_rfl) (by kernel_rfl) (by kernel_rfl)) ?_
  intro W base args ds gs before hval0 hW _ hsz0 _
  have hsz : (DataW.weightsEach Try.prog (Try.f4.params.toList ++ Rows.coneBacksSpec.plain.varTypes Try.prog) (ds ++ gs)).all (· ≤ reachBytes) = true := hsz0
  have hval : ∀ (j : Nat) t v, Try.f4.params[j]? = some t → args[j]? = some v → Value.okWide Try.prog W .any base t v := hval0
  have hW' := hW
  obtain ⟨p, q, hA0, hV, rfl, hfz, hnd⟩ := hW
  have hA : DataW.TrodAll enc Try.prog W 0 (fun _ => true) true Try.f4.params.toList args.toList ds p := hA0
  have hA1 := hA
  rw [Try.params4] at hA hval hsz
  obtain ⟨v0, v1, d0, d1, p0, p1, rfl, rfl, rfl, h0, h1⟩ := trodAll_two hA
  obtain ⟨rfl, rfl⟩ := trodVars_none hV
  clear hA0 hval0 hsz0
  try simp only [List.append_nil] at hW'
  have hlt : ∀ x ∈ p0 ++ p1, x.block < W.heap.size := fun x hx => hW'.lt x (by simpa using hx)
  obtain ⟨V0, C0, rfl, hin0, hok0, hrm0⟩ := arg_circR (hval 0 29 v0 rfl rfl) h0 (fun x hx => hlt x (by simp [hx])) (each_all hsz (j := 0) rfl rfl)
  obtain ⟨X1, mx1, lv1, iv1, tv1, L1, I1, T1, U1, t1, u1, M1, rfl, hbk1⟩ := arg_back (hval 1 52 v1 rfl rfl) h1 (fun x hx => hlt x (by simp [hx])) (each_all hsz (j := 1) rfl rfl)
  refine (coneBacks_walk W V0 C0 X1 mx1 lv1 iv1 tv1 L1 I1 T1 U1 t1 u1 M1 hin0 hok0 hrm0 hbk1).mono fun e W' ⟨he, hbw⟩ => ?_
  subst he
  exact ⟨_, rfl, law_post rfl (by rw [Try.params4]; exact of_decide_eq_true (by kernel_rfl)) rfl hW' hA1 hlt rfl rfl rfl hbw⟩

theorem coneBacks_over : Rows.coneBacksRow.holds Try.pinned (OpenSpec.ofChange Rows.coneBacksSpec) :=
  OpenClaim.holds_of_wide 4 Try.f4 rfl rfl rfl rfl rfl rfl rfl ⟨rfl, rfl, rfl, rfl, rfl⟩ rfl rfl rfl rfl rfl (by kernel_rfl) Try.func4 (by kernel_rfl)
    (of_decide_eq_true (by kernel_rfl)) (by unfold Func.isWrapper; first | (rw [if_pos (by decide +kernel)]; kernel_rfl) | (rw [if_neg (by decide +kernel)]; exact ⟨rfl, rfl⟩))
    (fun os started H enc _ => coneBacks_lifted os started H enc)

/-- ConeBacks: for every circuit, cut, trace and lemma the statement's Go function returns true and leaves its arguments as they were. No condition. -/
theorem coneBacks_holds : Rows.ConeBacksSaid := coneBacks_over
#print axioms coneBacks_holds
end Go.Proofs.Ytagffmalmkcboaa

/- PROVED HERE: EncodeCones: for every circuit, list of numbers, state, row and bits the statement's Go function returns true and leaves its arguments as they were. No condition. -/
import Derived.Test.YtbgdhfnfbahdhabECones
import Derived.Test.YtbgdhfnfbahdhabArgS
namespace Go.Proofs.Ytbgdhfnfbahdhab
open Go.ChangeShapes Go.WideShapes Go.ChangeAt Go.RowKit

section
variable {H : Type} {enc : TypeId × Value → H} {W : World}
set_option maxRecDepth 10000 in
/-- A row of ints that is handed in. -/
theorem arg_irowE {base : Nat} {v : Value} {d : DataW H} {ps : List MemPlace}
    (hval : Value.okWide Try.prog W .any base 22 v) (h : DataW.Trod enc Try.prog W 0 (fun _ => true) true 22 v d ps) (hlt : ∀ x ∈ ps, x.block < W.heap.size) : ∃ zs, RowE 1 encI W v zs := by
  obtain ⟨a0, len, cap, rfl⟩ := okWide_slice Try.underlying22 hval
  obtain ⟨fuel, hf⟩ := h
  obtain ⟨v', zs, e, h1, _⟩ := arg_run (enc' := encI) (Q := fun z _ => I64 z) Try.underlying22 one_int lenI (by omega) (fun cs n x _ h _ => cell_int h) hf hlt
  simp [Value.cells] at e
  subst e
  exact ⟨zs, h1⟩
set_option maxRecDepth 10000 in
set_option maxHeartbeats 1000000 in
/-- A state, a row and a word in one struct that is handed in. -/
theorem arg_caseE {base : Nat} {v : Value} {d : DataW H} {ps : List MemPlace}
    (hval : Value.okWide Try.prog W .any base 49 v) (h : DataW.Trod enc Try.prog W 0 (fun _ => true) true 49 v d ps) (hlt : ∀ x ∈ ps, x.block < W.heap.size) :
    ∃ (sv rv : Value) (y : Int) (st row : List Bool), v = .agg #[sv, rv, .int .u64 y] ∧ RowE 1 encO W sv st ∧ RowE 1 encO W rv row := by
  obtain ⟨cs, rfl, hcs⟩ := okWide_struct Try.underlying49 hval
  obtain ⟨fuel, hf⟩ := h
  obtain ⟨xs, n, _, hx, hl, hxl, hfi⟩ := DataW.trod_struct Try.underlying49 hf
  simp only [Prod.mk.injEq] at hx
  obtain ⟨rfl, rfl⟩ := hx
  have hcl : cs.size = 3 := by rw [hcs]; kernel_rfl
  obtain ⟨l⟩ := cs
  match l, hcl with
  | [c0, c1, c2], _ =>
  match xs, hxl with
  | [y0, y1, y2], _ =>
  have f0 := hfi 0 _ rfl
  have f1 := hfi 1 _ rfl
  have f2 := hfi 2 _ rfl
  simp [Value.cells, one_bools, show Try.prog.cellsOf 47 = 1 by kernel_rfl] at f0 f1 f2
  have hlt' : ∀ y ∈ [y0, y1, y2], ∀ x ∈ y.2, x.block < W.heap.size := fun y hy x hxy => hlt x (List.mem_flatMap.2 ⟨y, hy, hxy⟩)
  obtain ⟨v0, zi, e0, ri, _⟩ := arg_run (enc' := encO) (Q := fun _ _ => True) Try.underlying30 one_bool lenO (by omega) (fun cs n x _ h _ => cell_boolS h) f0 (hlt' y0 (by simp))
  obtain ⟨v1, zj, e1, rj, _⟩ := arg_run (enc' := encO) (Q := fun _ _ => True) Try.underlying30 one_bool lenO (by omega) (fun cs n x _ h _ => cell_boolS h) f1 (hlt' y1 (by simp))
  obtain ⟨z, e2, _, _⟩ := DataW.trod_int Try.underlying47 f2
  simp only [List.cons.injEq, and_true] at e0 e1 e2
  subst e0 e1 e2
  exact ⟨c0, c1, z, zi, zj, rfl, ri, rj⟩
end
set_option maxRecDepth 100000 in
theorem encodeCones_lifted (os : Os) (started : os.Started) (H : Type) (enc : TypeId × Value → H) :
    ReturnsInHanded {} Try.checked os 4 .any (Rows.encodeConesSpec.pre6 enc Try.prog Try.f4 Rows.encodeConesRow.domain false) (Rows.encodeConesSpec.post enc Try.prog Try.f4 false true false false) := by
  refine returnsInHanded_of_change_sized (C := Try.checked) ownNone started (by kernel_rfl) Try.func4
    (ChangeSpec.witness6 (enc := enc) (C := Try.checked) false ⟨#[], #[.agg #[.int .i64 0, .slice none 0 0, .slice none 0 0, .slice none 0 0, .slice none 0 0, .slice none 0 0, .slice none 0 0, .slice none 0 0, .slice none 0 0, .slice none 0 0, .slice none 0 0], .slice none 0 0, .agg #[.slice none 0 0, .slice none 0 0, .int .u64 0]], []⟩ 8 (by kernel_rfl) (by kernel_rfl) (by kernel_rfl) (by kernel_rfl)) ?_
  intro W base args ds gs before hval0 hW _ hsz0 _
  have hsz : (DataW.weightsEach Try.prog (Try.f4.params.toList ++ Rows.encodeConesSpec.plain.varTypes Try.prog) (ds ++ gs)).all (· ≤ reachBytes) = true := hsz0
  have hval : ∀ (j : Nat) t v, Try.f4.params[j]? = some t → args[j]? = some v → Value.okWide Try.prog W .any base t v := hval0
  have hW' := hW
  obtain ⟨p, q, hA0, hV, rfl, hfz, hnd⟩ := hW
  have hA : DataW.TrodAll enc Try.prog W 0 (fun _ => true) true Try.f4.params.toList args.toList ds p := hA0
  have hA1 := hA
  rw [Try.params4] at hA hval hsz
  obtain ⟨v0, v1, v2, d0, d1, d2, p0, p1, p2, rfl, rfl, rfl, h0, h1, h2⟩ := trodAll_three hA
  obtain ⟨rfl, rfl⟩ := trodVars_none hV
  clear hA0 hval0 hsz0
  try simp only [List.append_nil] at hW'
  have hlt : ∀ x ∈ p0 ++ p1 ++ p2, x.block < W.heap.size := fun x hx => hW'.lt x (by simpa using hx)
  obtain ⟨V0, C0, rfl, hin0, hok0, _⟩ := arg_circR (hval 0 29 v0 rfl rfl) h0 (fun x hx => hlt x (by simp [hx])) (each_all hsz (j := 0) rfl rfl)
  obtain ⟨zs1, hrw1⟩ := arg_irowE (hval 1 22 v1 rfl rfl) h1 (fun x hx => hlt x (by simp [hx]))
  obtain ⟨sv2, rv2, y2, st2, row2, rfl, hcs2, hcr2⟩ := arg_caseE (hval 2 49 v2 rfl rfl) h2 (fun x hx => hlt x (by simp [hx]))
  refine (encodeCones_walk W V0 C0 _ sv2 rv2 zs1 st2 row2 y2 hin0 hok0 hrw1 hcs2 hcr2).mono fun e W' ⟨he, hbw⟩ => ?_
  subst he
  exact ⟨_, rfl, law_post rfl (by rw [Try.params4]; exact of_decide_eq_true (by kernel_rfl)) rfl hW' hA1 hlt rfl rfl rfl hbw⟩

theorem encodeCones_over : Rows.encodeConesRow.holds Try.pinned (OpenSpec.ofChange Rows.encodeConesSpec) :=
  OpenClaim.holds_of_wide 4 Try.f4 rfl rfl rfl rfl rfl rfl rfl ⟨rfl, rfl, rfl, rfl, rfl⟩ rfl rfl rfl rfl rfl (by kernel_rfl) Try.func4 (by kernel_rfl)
    (of_decide_eq_true (by kernel_rfl)) (by unfold Func.isWrapper; first | (rw [if_pos (by decide +kernel)]; kernel_rfl) | (rw [if_neg (by decide +kernel)]; exact ⟨rfl, rfl⟩))
    (fun os started H enc _ => encodeCones_lifted os started H enc)

/-- EncodeCones: for every circuit, list of numbers, state, row and bits the statement's Go function returns true and leaves its arguments as they were. No condition. -/
theorem encodeCones_holds : Rows.EncodeConesSaid := encodeCones_over
#print axioms encodeCones_holds
end Go.Proofs.Ytbgdhfnfbahdhab

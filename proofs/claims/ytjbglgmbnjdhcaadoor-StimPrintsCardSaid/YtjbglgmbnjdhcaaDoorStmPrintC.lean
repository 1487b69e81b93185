/- PROVED HERE: StimPrints: for every witness and every two sizes the statement's Go function returns true and leaves its arguments as they were; the seven listed variables of the library are tied to the program's text. No condition. -/
import Derived.Test.YtjbglgmbnjdhcaaDoorStmRE
import Derived.Test.YtjbglgmbnjdhcaaDoorStmV
import Derived.Test.YtjbglgmbnjdhcaaDoorCards
import Derived.SevenTiedAt
import Derived.Deep.DeepHandedRow
namespace Go.Proofs.YtjbglgmbnjdhcaaDoor
open Go.ChangeShapes Go.WideShapes Go.ChangeAt Go.RowKit

section
variable {H : Type} {enc : TypeId × Value → H} {W : World}
set_option maxRecDepth 100000 in
theorem cell_traceR {n : Nat} {c0 c1 c2 : Value} {x : DataW H × List MemPlace} (h : DataW.trod enc Tryd.prog W 0 (fun _ => true) true n 26 [c0, c1, c2] = some x) (hlt : ∀ y ∈ x.2, y.block < W.heap.size) (hsz : (x.1.weights Tryd.prog 26).all (· ≤ reachBytes) = true) : ∃ (U : TV) (t : Tr), c0 = U.i ∧ c1 = U.r ∧ c2 = .int .i64 t.loop ∧ t.In W U ∧ t.Reach := by
  obtain ⟨xs, n, _, hx, hl, hxl, hfi⟩ := DataW.trod_struct Tryd.underlying26 h
  subst hx
  match xs, hxl with
  | [y0, y1, y2], _ =>
  have f0 := hfi 0 _ rfl
  have f1 := hfi 1 _ rfl
  have f2 := hfi 2 _ rfl
  simp [one_int, one_bools, show Tryd.prog.cellsOf 24 = 1 by kernel_rfl] at f0 f1 f2
  have hlt' : ∀ y ∈ [y0, y1, y2], ∀ x ∈ y.2, x.block < W.heap.size := fun y hy x hxy => hlt x (List.mem_flatMap.2 ⟨y, hy, hxy⟩)
  obtain ⟨v0, zi, e0, ri, di⟩ := arg_run (enc' := encO) (Q := fun _ _ => True) Tryd.underlying23 one_bool lenO (by omega) (fun cs n x _ h _ => cell_boolS h) f0 (hlt' y0 (by simp))
  obtain ⟨v1, vs, e1, rj, dj⟩ := arg_run (enc' := encV) (Q := fun u x => ∃ zs, RowE 1 encO W u zs ∧ ReadsAs (fun _ _ => True) x zs) Tryd.underlying24 one_bools lenV (by omega) (fun cs n x hl h hx => by
    obtain ⟨v, zs, e, h1, h2⟩ := arg_run (enc' := encO) (Q := fun _ _ => True) Tryd.underlying23 one_bool lenO (by omega) (fun cs n x _ h _ => cell_boolS h) h hx
    exact ⟨v, e, zs, h1, h2⟩) f1 (hlt' y1 (by simp))
  obtain ⟨lp, e2, hlp⟩ := cell_int f2
  simp only [encI, List.cons.injEq, and_true] at e0 e1 e2
  subst e0 e1 e2
  simp only at hsz
  rw [DataW.weights, Tryd.underlying26] at hsz
  have wi := list_allR Tryd.underlying23 (b := 1) (by kernel_rfl) di (each_all hsz (j := 0) rfl rfl)
  have wj := list_allR Tryd.underlying24 (b := 24) (by kernel_rfl) dj (each_all hsz (j := 1) rfl rfl)
  have hjj : ∀ i, i < vs.length → ∃ js : List Bool, RowE 1 encO W (vs.getD i undef) js ∧ js.length ≤ 140737488351232 := fun i hi => by
    have hu := List.getElem?_eq_getElem hi
    obtain ⟨x, ⟨js, h1, h2⟩, h3⟩ := wj.2 i _ hu
    have h4 := list_allR Tryd.underlying23 (b := 1) (by kernel_rfl) h2 h3
    exact ⟨js, by simpa [List.getD, hu] using h1, by simpa using h4.1⟩
  obtain ⟨J, hJ⟩ := Go.Deep.choose_lt hjj
  refine ⟨⟨c0, c1⟩, ⟨zi, (List.range vs.length).map J, lp⟩, rfl, rfl, rfl, ⟨ri, vs, rj, by simp, fun i u q hu hq => ?_⟩, ⟨by simpa using wi.1, by simpa using wj.1, fun q hq => ?_, hlp⟩⟩
  · have hi : i < vs.length := (List.getElem?_eq_some_iff.1 hu).1
    simp [hi] at hq
    subst hq
    have := (hJ i hi).1
    simpa [List.getD, hu] using this
  · obtain ⟨i, hi, rfl⟩ := List.mem_map.1 hq
    exact (hJ i (List.mem_range.1 hi)).2
set_option maxRecDepth 100000 in
theorem arg_witR {base : Nat} {v : Value} {d : DataW H} {ps : List MemPlace}
    (hval : Value.okWide Tryd.prog W .any base 28 v) (h : DataW.Trod enc Tryd.prog W 0 (fun _ => true) true 28 v d ps) (hlt : ∀ x ∈ ps, x.block < W.heap.size)
    (hsz : (d.weights Tryd.prog 28).all (· ≤ reachBytes) = true) :
    ∃ (x : Wit) (vp vi vr : Value), v = .agg #[.int .i64 x.st, vp, vi, vr, .int .i64 x.tr.loop] ∧ WtIn W x vp vi vr ∧ (∀ p ∈ x.ps, (0 ≤ p.1 ∧ p.1 ≤ 255) ∧ I64 p.2) ∧ x.ps.length * 16 ≤ 140737488355328 ∧ x.tr.Reach := by
  obtain ⟨cs, rfl, hcs⟩ := okWide_struct Tryd.underlying28 hval
  obtain ⟨fuel, hf⟩ := h
  obtain ⟨xs, n, _, hx, hl, hxl, hfi⟩ := DataW.trod_struct Tryd.underlying28 hf
  simp only [Prod.mk.injEq] at hx
  obtain ⟨rfl, rfl⟩ := hx
  have hcl : cs.size = 5 := by rw [hcs]; kernel_rfl
  obtain ⟨l⟩ := cs
  match l, hcl with
  | [c0, c1, c2, c3, c4], _ =>
  match xs, hxl with
  | [y0, y1, y2], _ =>
  have f0 := hfi 0 _ rfl
  have f1 := hfi 1 _ rfl
  have f2 := hfi 2 _ rfl
  simp [Value.cells, one_int, one_props, show Tryd.prog.cellsOf 26 = 3 by kernel_rfl] at f0 f1 f2
  have hlt' : ∀ y ∈ [y0, y1, y2], ∀ x ∈ y.2, x.block < W.heap.size := fun y hy x hxy => hlt x (List.mem_flatMap.2 ⟨y, hy, hxy⟩)
  obtain ⟨st, e0, _⟩ := cell_int f0
  obtain ⟨vp, qs, e1, rp, dp⟩ := arg_run (enc' := encPp) (Q := fun z _ => PropOk z) Tryd.underlying22 two_prop lenPp (by omega) (fun cs n x hl h _ => cell_prop hl h) f1 (hlt' y1 (by simp))
  rw [DataW.weights, Tryd.underlying28] at hsz
  obtain ⟨U, t, e2, e3, e4, ht, hre⟩ := cell_traceR f2 (hlt' y2 (by simp)) (each_all hsz (j := 2) rfl rfl)
  have wp := list_allR Tryd.underlying22 (b := 16) (by kernel_rfl) dp (each_all hsz (j := 1) rfl rfl)
  simp only [encI, List.cons.injEq, and_true] at e0 e1
  subst e0 e1 e2 e3 e4
  refine ⟨⟨st, qs, t⟩, _, _, _, rfl, ⟨rp, ht⟩, fun p hp => ?_, by have := wp.1; simp only; omega, hre⟩
  obtain ⟨i, hi⟩ := List.getElem?_of_mem hp
  have hil := (List.getElem?_eq_some_iff.1 hi).1
  rcases dp with ⟨_, rfl⟩ | ⟨es, sp, _, hl9, hq⟩
  · cases hi
  · exact hq i p _ hi (List.getElem?_eq_getElem (by rw [hl9]; exact hil))
end
set_option maxRecDepth 100000 in
theorem stimPrints_lifted (os : Os) (started : os.Started) (H : Type) (enc : TypeId × Value → H) :
    ReturnsInHanded {} Tryd.checked os 3 .any (fun w args => (Rows.stimPrintsSpec.pre enc Tryd.prog Tryd.f3 [] false w args ∧ laidMetH Tryd.prog laid7 w) ∧ sizedMet enc Tryd.prog Tryd.f3 (OpenSpec.ofChange Rows.stimPrintsSpec) false w args)
      (Rows.stimPrintsSpec.post enc Tryd.prog Tryd.f3 false true false false) := by
  refine returnsInHanded_of_row (C := Tryd.checked) (s := OpenSpec.ofChange Rows.stimPrintsSpec) (F := fun _ _ => id) (laid := laid7) (conds := []) (apart := false) (fresh := true) (handsOn := false) (again := false) ownNone started (by kernel_rfl) Tryd.func3 ?_ ?_
  · exact ChangeSpec.witness_shaped (enc := enc) (C := Tryd.checked) (os := os) (X := fun w _ => laidMetH Tryd.prog laid7 w) false (World.laidAll Tryd.prog os laid7) #[.agg #[.int .i64 0, .slice none 0 0, .slice none 0 0, .slice none 0 0, .int .i64 0], .agg #[.int .i64 0, .int .i64 0]] 8 (World.laidAll_os _ _ _) (World.shaped_of_ZipB (by kernel_rfl) (by kernel_rfl)) (by kernel_rfl) (by kernel_rfl) (by kernel_rfl) (met7 os _)
  · intro W base args ds gs before hval0 hW _ _ hsz0 hL hsh _
    have hval : ∀ (j : Nat) t v, Tryd.f3.params[j]? = some t → args[j]? = some v → Value.okWide Tryd.prog W .any base t v := hval0
    have hsz : (DataW.weightsEach Tryd.prog (Tryd.f3.params.toList ++ Rows.stimPrintsSpec.plain.varTypes Tryd.prog) (ds ++ gs)).all (· ≤ reachBytes) = true := hsz0
    have hW' := hW
    obtain ⟨p, q, hA0, hV, rfl, hfz, hnd⟩ := hW
    have hA : DataW.TrodAll enc Tryd.prog W 0 (fun _ => true) true Tryd.f3.params.toList args.toList ds p := hA0
    have hA1 := hA
    rw [Tryd.params3] at hA hval hsz
    obtain ⟨v0, v1, d0, d1, p0, p1, rfl, rfl, rfl, h0, h1⟩ := trodAll_two hA
    obtain ⟨rfl, rfl⟩ := trodVars_none hV
    clear hA0 hval0 hsz0
    try simp only [List.append_nil] at hW' hsz
    have hlt : ∀ x ∈ p0 ++ p1, x.block < W.heap.size := fun x hx => hW'.lt x (by simpa using hx)
    obtain ⟨x, vp, vi, vr, rfl, hin, hwf, hpl, hre⟩ := arg_witR (hval 0 28 v0 rfl rfl) h0 (fun x hx => hlt x (by simp [hx])) (each_all hsz (j := 0) rfl rfl)
    obtain ⟨L, n, rfl⟩ := arg_size (hval 1 30 v1 rfl rfl) h1
    refine (stimPrints_any W W.heap.size x vp vi vr hin hwf hpl hre L n (libB7 hL (max7 hsh)) (Nat.le_refl _)).mono fun e W' ⟨he, hbw⟩ => ?_
    subst he
    exact ⟨_, rfl, law_post rfl (by rw [Tryd.params3]; exact of_decide_eq_true (by kernel_rfl)) rfl hW' hA1 hlt rfl rfl rfl hbw⟩
theorem stimPrints_row : Rows.StimPrintsSaid :=
  OpenClaim.holds_of_wide 3 Tryd.f3 rfl rfl rfl rfl rfl rfl rfl ⟨rfl, rfl, rfl, rfl, rfl⟩ rfl rfl rfl rfl rfl (by kernel_rfl) Tryd.func3 (by kernel_rfl)
    (of_decide_eq_true (by kernel_rfl)) (by unfold Func.isWrapper; first | (rw [if_pos (by decide +kernel)]; kernel_rfl) | (rw [if_neg (by decide +kernel)]; exact ⟨rfl, rfl⟩))
    (fun os started H enc _ => stimPrints_lifted os started H enc)

/-- StimPrints: for every witness and every two sizes the statement's Go function returns true and leaves its arguments as they were. No condition. -/
theorem stimPrints_card : Rows.StimPrintsCardSaid :=
  Claim7.holds_tied_plain_at .later [] [.data, .data, .data, .data, .sentinel, .sentinel, .pinned] true Rows.stimPrintsCard.stood.harness true
    stimPrints_row (fun _ h => by cases h) (by kernel_rfl) (fun _ h => by cases h) stimPrints_row_tie rfl ⟨rfl, rfl⟩ (by kernel_rfl) rfl
    (fun f fn hf hfn => by
      obtain rfl : f = 3 := Option.some.inj ((show Tryd.prog.funcNamed "trestle/trestlelaw12.StimPrints" = some 3 by kernel_rfl).symm.trans hf) |>.symm
      obtain rfl : fn = Tryd.f3 := (Option.some.inj (Tryd.func3.symm.trans hfn)).symm
      exact ⟨by kernel_rfl, fun j t ht => by
        rw [Tryd.params3] at ht
        have hm : t ∈ [28, 30] := by simpa using Array.mem_of_getElem? ht
        have hall : ([28, 30].all fun u => !Tryd.prog.wantsStandIn u) = true := by kernel_rfl
        exact (show Tryd.prog.wantsStandIn t = false by simpa using List.all_eq_true.1 hall t hm)⟩)
    (by kernel_rfl)
#print axioms stimPrints_card
end Go.Proofs.YtjbglgmbnjdhcaaDoor

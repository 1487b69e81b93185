/- PROVED HERE: TernSteps: for every circuit, row of ints, row of ints the statement's Go function returns true and leaves its arguments as they were; the two listed tables of the program are tied to its text. No condition. -/
import Derived.Test.YtbeaicmjohlboaaDoorTSteps
import Derived.Test.YtbeaicmjohlboaaDoorTabC
import Derived.Test.YtbeaicmjohlboaaDoorArgT
import Derived.Test.YtbeaicmjohlboaaDoorCards
import Derived.SevenTiedAt
namespace Go.Proofs.YtbeaicmjohlboaaDoor
open Go.ChangeShapes Go.WideShapes Go.ChangeAt Go.RowKit

set_option maxRecDepth 100000 in
theorem ternSteps_lifted (os : Os) (started : os.Started) (H : Type) (enc : TypeId × Value → H) :
    ReturnsInHanded {} Tryd.checked os 3 .any (fun w args => (Rows.ternStepsSpec.pre enc Tryd.prog Tryd.f3 [] false w args ∧ laidMetH Tryd.prog laidT w) ∧ sizedMet enc Tryd.prog Tryd.f3 (OpenSpec.ofChange Rows.ternStepsSpec) false w args)
      (Rows.ternStepsSpec.post enc Tryd.prog Tryd.f3 false true false false) := by
  refine returnsInHanded_of_change_and (C := Tryd.checked) (X := fun w _ => laidMetH Tryd.prog laidT w) (fun _ _ _ hh h => h.of_heap hh) ownNone started (by kernel_rfl) Tryd.func3
    (ChangeSpec.witness_shaped (enc := enc) (C := Tryd.checked) (os := os) (X := fun w _ => laidMetH Tryd.prog laidT w) false (World.doorLaid Tryd.prog 400 os) #[.agg #[.int .i64 0, .slice none 0 0, .slice none 0 0, .slice none 0 0, .slice none 0 0, .slice none 0 0, .slice none 0 0, .slice none 0 0, .slice none 0 0, .slice none 0 0, .slice none 0 0], .slice none 0 0, .slice none 0 0] 8 rfl (World.shaped_of_RefB (by kernel_rfl) (by kernel_rfl)) (by kernel_rfl) (by kernel_rfl) (by kernel_rfl) (door_metT os _)) ?_
  intro W base args ds gs before hval0 hW _ hsz0 hL _
  have hsz : (DataW.weightsEach Tryd.prog (Tryd.f3.params.toList ++ Rows.ternStepsSpec.plain.varTypes Tryd.prog) (ds ++ gs)).all (· ≤ reachBytes) = true := hsz0
  have hval : ∀ (j : Nat) t v, Tryd.f3.params[j]? = some t → args[j]? = some v → Value.okWide Tryd.prog W .any base t v := hval0
  have hW' := hW
  obtain ⟨p, q, hA0, hV, rfl, hfz, hnd⟩ := hW
  have hA : DataW.TrodAll enc Tryd.prog W 0 (fun _ => true) true Tryd.f3.params.toList args.toList ds p := hA0
  have hA1 := hA
  rw [Tryd.params3] at hA hval hsz
  obtain ⟨v0, v1, v2, d0, d1, d2, p0, p1, p2, rfl, rfl, rfl, h0, h1, h2⟩ := trodAll_three hA
  obtain ⟨rfl, rfl⟩ := trodVars_none hV
  clear hA0 hval0 hsz0
  try simp only [List.append_nil] at hW'
  have hlt : ∀ x ∈ p0 ++ p1 ++ p2, x.block < W.heap.size := fun x hx => hW'.lt x (by simpa using hx)
  obtain ⟨V0, C0, rfl, hin0, hok0, hrm0⟩ := arg_circR (hval 0 29 v0 rfl rfl) h0 (fun x hx => hlt x (by simp [hx])) (each_all hsz (j := 0) rfl rfl)
  obtain ⟨zs1, hrw1, hln1⟩ := arg_irow (hval 1 22 v1 rfl rfl) h1 (fun x hx => hlt x (by simp [hx])) (each_all hsz (j := 1) rfl rfl)
  obtain ⟨zs2, hrw2, hln2⟩ := arg_irow (hval 2 22 v2 rfl rfl) h2 (fun x hx => hlt x (by simp [hx])) (each_all hsz (j := 2) rfl rfl)
  refine (ternSteps_walk W V0 C0 _ zs1 _ zs2 (tab_laidT hL) hin0 hok0 hrm0 hrw1 hln1 hrw2 hln2).mono fun e W' ⟨he, hbw⟩ => ?_
  subst he
  exact ⟨_, rfl, law_post rfl (by rw [Tryd.params3]; exact of_decide_eq_true (by kernel_rfl)) rfl hW' hA1 hlt rfl rfl rfl hbw⟩

theorem ternSteps_row : Rows.TernStepsSaid :=
  OpenClaim.holds_of_wide 3 Tryd.f3 rfl rfl rfl rfl rfl rfl rfl ⟨rfl, rfl, rfl, rfl, rfl⟩ rfl rfl rfl rfl rfl (by kernel_rfl) Tryd.func3 (by kernel_rfl)
    (of_decide_eq_true (by kernel_rfl)) (by unfold Func.isWrapper; first | (rw [if_pos (by decide +kernel)]; kernel_rfl) | (rw [if_neg (by decide +kernel)]; exact ⟨rfl, rfl⟩))
    (fun os started H enc _ => ternSteps_lifted os started H enc)

/-- TernSteps: for every circuit, row of ints, row of ints the statement's Go function returns true and leaves its arguments as they were. No condition. -/
theorem ternSteps_card : Rows.TernStepsCardSaid :=
  Claim7.holds_tied_plain_at .later [] [.data, .data] true Rows.ternStepsCard.stood.harness true
    ternSteps_row (fun _ h => by cases h) (by kernel_rfl) (fun _ h => by cases h) ternSteps_row_tie rfl ⟨rfl, rfl⟩ (by kernel_rfl) rfl
    (fun f fn hf hfn => by
      obtain rfl : f = 3 := Option.some.inj ((show Tryd.prog.funcNamed "trestle/trestlelaw08.TernSteps" = some 3 by kernel_rfl).symm.trans hf) |>.symm
      obtain rfl : fn = Tryd.f3 := (Option.some.inj (Tryd.func3.symm.trans hfn)).symm
      exact ⟨by kernel_rfl, fun j t ht => by
        rw [Tryd.params3] at ht
        have hm : t ∈ [29, 22, 22] := by simpa using Array.mem_of_getElem? ht
        have hall : ([29, 22, 22].all fun u => !Tryd.prog.wantsStandIn u) = true := by kernel_rfl
        exact (show Tryd.prog.wantsStandIn t = false by simpa using List.all_eq_true.1 hall t hm)⟩)
    (by kernel_rfl)
#print axioms ternSteps_card
end Go.Proofs.YtbeaicmjohlboaaDoor

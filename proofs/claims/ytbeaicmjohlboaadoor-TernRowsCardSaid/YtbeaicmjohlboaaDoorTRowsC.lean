/- PROVED HERE: TernRows: for every row of ints, row of ints, number the statement's Go function returns true and leaves its arguments as they were; the two listed tables of the program are tied to its text. No condition. -/
import Derived.Test.YtbeaicmjohlboaaDoorTRows
import Derived.Test.YtbeaicmjohlboaaDoorTabC
import Derived.Test.YtbeaicmjohlboaaDoorArgT
import Derived.Test.YtbeaicmjohlboaaDoorCards
import Derived.SevenTiedAt
namespace Go.Proofs.YtbeaicmjohlboaaDoor
open Go.ChangeShapes Go.WideShapes Go.ChangeAt Go.RowKit

set_option maxRecDepth 100000 in
theorem ternRows_lifted (os : Os) (started : os.Started) (H : Type) (enc : TypeId × Value → H) :
    ReturnsInHanded {} Tryd.checked os 4 .any (fun w args => (Rows.ternRowsSpec.pre enc Tryd.prog Tryd.f4 [] false w args ∧ laidMetH Tryd.prog laidT w) ∧ sizedMet enc Tryd.prog Tryd.f4 (OpenSpec.ofChange Rows.ternRowsSpec) false w args)
      (Rows.ternRowsSpec.post enc Tryd.prog Tryd.f4 false true false false) := by
  refine returnsInHanded_of_change_and (C := Tryd.checked) (X := fun w _ => laidMetH Tryd.prog laidT w) (fun _ _ _ hh h => h.of_heap hh) ownNone started (by kernel_rfl) Tryd.func4
    (ChangeSpec.witness_shaped (enc := enc) (C := Tryd.checked) (os := os) (X := fun w _ => laidMetH Tryd.prog laidT w) false (World.doorLaid Tryd.prog 400 os) #[.slice none 0 0, .slice none 0 0, .int .i64 0] 8 rfl (World.shaped_of_RefB (by kernel_rfl) (by kernel_rfl)) (by kernel_rfl) (by kernel_rfl) (by kernel_rfl) (door_metT os _)) ?_
  intro W base args ds gs before hval0 hW _ hsz0 hL _
  have hsz : (DataW.weightsEach Tryd.prog (Tryd.f4.params.toList ++ Rows.ternRowsSpec.plain.varTypes Tryd.prog) (ds ++ gs)).all (· ≤ reachBytes) = true := hsz0
  have hval : ∀ (j : Nat) t v, Tryd.f4.params[j]? = some t → args[j]? = some v → Value.okWide Tryd.prog W .any base t v := hval0
  have hW' := hW
  obtain ⟨p, q, hA0, hV, rfl, hfz, hnd⟩ := hW
  have hA : DataW.TrodAll enc Tryd.prog W 0 (fun _ => true) true Tryd.f4.params.toList args.toList ds p := hA0
  have hA1 := hA
  rw [Tryd.params4] at hA hval hsz
  obtain ⟨v0, v1, v2, d0, d1, d2, p0, p1, p2, rfl, rfl, rfl, h0, h1, h2⟩ := trodAll_three hA
  obtain ⟨rfl, rfl⟩ := trodVars_none hV
  clear hA0 hval0 hsz0
  try simp only [List.append_nil] at hW'
  have hlt : ∀ x ∈ p0 ++ p1 ++ p2, x.block < W.heap.size := fun x hx => hW'.lt x (by simpa using hx)
  obtain ⟨zs0, hrw0, hln0⟩ := arg_irow (hval 0 22 v0 rfl rfl) h0 (fun x hx => hlt x (by simp [hx])) (each_all hsz (j := 0) rfl rfl)
  obtain ⟨zs1, hrw1, hln1⟩ := arg_irow (hval 1 22 v1 rfl rfl) h1 (fun x hx => hlt x (by simp [hx])) (each_all hsz (j := 1) rfl rfl)
  obtain ⟨a2, rfl, hai2⟩ := arg_inum (hval 2 3 v2 rfl rfl) h2
  refine (ternRows_walk W _ zs0 _ zs1 a2 (tab_laidT hL) hrw0 hln0 hrw1 hln1 hai2).mono fun e W' ⟨he, hbw⟩ => ?_
  subst he
  exact ⟨_, rfl, law_post rfl (by rw [Tryd.params4]; exact of_decide_eq_true (by kernel_rfl)) rfl hW' hA1 hlt rfl rfl rfl hbw⟩

theorem ternRows_row : Rows.TernRowsSaid :=
  OpenClaim.holds_of_wide 4 Tryd.f4 rfl rfl rfl rfl rfl rfl rfl ⟨rfl, rfl, rfl, rfl, rfl⟩ rfl rfl rfl rfl rfl (by kernel_rfl) Tryd.func4 (by kernel_rfl)
    (of_decide_eq_true (by kernel_rfl)) (by unfold Func.isWrapper; first | (rw [if_pos (by decide +kernel)]; kernel_rfl) | (rw [if_neg (by decide +kernel)]; exact ⟨rfl, rfl⟩))
    (fun os started H enc _ => ternRows_lifted os started H enc)

/-- TernRows: for every row of ints, row of ints, number the statement's Go function returns true and leaves its arguments as they were. No condition. -/
theorem ternRows_card : Rows.TernRowsCardSaid :=
  Claim7.holds_tied_plain_at .later [] [.data, .data] true Rows.ternRowsCard.stood.harness true
    ternRows_row (fun _ h => by cases h) (by kernel_rfl) (fun _ h => by cases h) ternRows_row_tie rfl ⟨rfl, rfl⟩ (by kernel_rfl) rfl
    (fun f fn hf hfn => by
      obtain rfl : f = 4 := Option.some.inj ((show Tryd.prog.funcNamed "trestle/trestlelaw08.TernRows" = some 4 by kernel_rfl).symm.trans hf) |>.symm
      obtain rfl : fn = Tryd.f4 := (Option.some.inj (Tryd.func4.symm.trans hfn)).symm
      exact ⟨by kernel_rfl, fun j t ht => by
        rw [Tryd.params4] at ht
        have hm : t ∈ [22, 22, 3] := by simpa using Array.mem_of_getElem? ht
        have hall : ([22, 22, 3].all fun u => !Tryd.prog.wantsStandIn u) = true := by kernel_rfl
        exact (show Tryd.prog.wantsStandIn t = false by simpa using List.all_eq_true.1 hall t hm)⟩)
    (by kernel_rfl)
#print axioms ternRows_card
end Go.Proofs.YtbeaicmjohlboaaDoor

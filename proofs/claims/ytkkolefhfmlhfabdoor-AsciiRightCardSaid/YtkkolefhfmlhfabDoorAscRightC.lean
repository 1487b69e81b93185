/- PROVED HERE: AsciiRight: for every text the statement's Go function returns true and leaves its argument as it was; the seven listed variables of the library are tied to the program's text. No condition. -/
import Derived.Test.YtkkolefhfmlhfabDoorAscRight
import Derived.Test.YtkkolefhfmlhfabDoorAscOneC
namespace Go.Proofs.YtkkolefhfmlhfabDoor
open Go.ChangeShapes Go.WideShapes Go.ChangeAt Go.RowKit

set_option maxRecDepth 100000 in
theorem asciiRight_lifted (os : Os) (started : os.Started) (H : Type) (enc : TypeId × Value → H) :
    ReturnsInHanded {} Tryd.checked os 5 .any (fun w args => (Rows.asciiRightSpec.pre enc Tryd.prog Tryd.f5 [] false w args ∧ laidMetH Tryd.prog laidA w) ∧ sizedMet enc Tryd.prog Tryd.f5 (OpenSpec.ofChange Rows.asciiRightSpec) false w args)
      (Rows.asciiRightSpec.post enc Tryd.prog Tryd.f5 false true false false) := by
  refine returnsInHanded_of_row (C := Tryd.checked) (s := OpenSpec.ofChange Rows.asciiRightSpec) (F := fun _ _ => id) (laid := laidA) (conds := []) (apart := false) (fresh := true) (handsOn := false) (again := false) ownNone started (by kernel_rfl) Tryd.func5 ?_ ?_
  · exact ChangeSpec.witness_shaped (enc := enc) (C := Tryd.checked) (os := os) (X := fun w _ => laidMetH Tryd.prog laidA w) false (World.laidAll Tryd.prog os laidA) #[.string ⟨#[]⟩] 8 (World.laidAll_os _ _ _) (World.shaped_of_ZipB (by kernel_rfl) (by kernel_rfl)) (by kernel_rfl) (by kernel_rfl) (by kernel_rfl) (metA os _)
  · intro W base args ds gs before hval0 hW _ _ hsz0 hL hsh _
    have hsz : (DataW.weightsEach Tryd.prog (Tryd.f5.params.toList ++ Rows.asciiRightSpec.plain.varTypes Tryd.prog) (ds ++ gs)).all (· ≤ reachBytes) = true := hsz0
    have hval : ∀ (j : Nat) t v, Tryd.f5.params[j]? = some t → args[j]? = some v → Value.okWide Tryd.prog W .any base t v := hval0
    have hW' := hW
    obtain ⟨p, q, hA0, hV, rfl, hfz, hnd⟩ := hW
    have hA : DataW.TrodAll enc Tryd.prog W 0 (fun _ => true) true Tryd.f5.params.toList args.toList ds p := hA0
    have hA1 := hA
    rw [Tryd.params5] at hA hval hsz
    obtain ⟨v0, d0, rfl, rfl, h0⟩ := trodAll_one hA
    obtain ⟨rfl, rfl⟩ := trodVars_none hV
    clear hA0 hval0 hsz0
    try simp only [List.append_nil] at hW'
    have hlt : ∀ x ∈ p, x.block < W.heap.size := fun x hx => hW'.lt x (by simpa using hx)
    obtain ⟨s0, rfl, rfl, rfl, _⟩ := Go.ChangeMaps.open_string Tryd.underlying9 (hval 0 9 v0 rfl rfl) h0
    have hs0 : s0.data.toList.length ≤ reachBytes := sized_string hsz (j := 0) rfl rfl
    have hwk := asciiRight_any W W.heap.size s0.data.toList (by simp only [reachBytes] at hs0; omega) (libBA hL (maxA hsh)) (Nat.le_refl _)
    rw [strB_of] at hwk
    refine hwk.mono fun e W' ⟨he, hbw⟩ => ?_
    subst he
    exact ⟨_, rfl, law_post rfl (by rw [Tryd.params5]; exact of_decide_eq_true (by kernel_rfl)) rfl hW' hA1 hlt rfl rfl rfl hbw⟩
theorem asciiRight_row : Rows.AsciiRightSaid :=
  OpenClaim.holds_of_wide 5 Tryd.f5 rfl rfl rfl rfl rfl rfl rfl ⟨rfl, rfl, rfl, rfl, rfl⟩ rfl rfl rfl rfl rfl (by kernel_rfl) Tryd.func5 (by kernel_rfl)
    (of_decide_eq_true (by kernel_rfl)) (by unfold Func.isWrapper; first | (rw [if_pos (by decide +kernel)]; kernel_rfl) | (rw [if_neg (by decide +kernel)]; exact ⟨rfl, rfl⟩))
    (fun os started H enc _ => asciiRight_lifted os started H enc)

/-- AsciiRight: for every text the statement's Go function returns true and leaves its arguments as they were. No condition. -/
theorem asciiRight_card : Rows.AsciiRightCardSaid :=
  Claim7.holds_tied_plain_at .later [] [.data, .data, .data, .data, .sentinel, .sentinel, .pinned] true Rows.asciiRightCard.stood.harness true
    asciiRight_row (fun _ h => by cases h) (by kernel_rfl) (fun _ h => by cases h) asciiRight_row_tie rfl ⟨rfl, rfl⟩ (by kernel_rfl) rfl
    (fun f fn hf hfn => by
      obtain rfl : f = 5 := Option.some.inj ((show Tryd.prog.funcNamed "trestle/trestlelaw04.AsciiRight" = some 5 by kernel_rfl).symm.trans hf) |>.symm
      obtain rfl : fn = Tryd.f5 := (Option.some.inj (Tryd.func5.symm.trans hfn)).symm
      exact ⟨by kernel_rfl, fun j t ht => by
        rw [Tryd.params5] at ht
        have hm : t ∈ [9] := by simpa using Array.mem_of_getElem? ht
        have hall : ([9].all fun u => !Tryd.prog.wantsStandIn u) = true := by kernel_rfl
        exact (show Tryd.prog.wantsStandIn t = false by simpa using List.all_eq_true.1 hall t hm)⟩)
    (by kernel_rfl)
#print axioms asciiRight_card
end Go.Proofs.YtkkolefhfmlhfabDoor

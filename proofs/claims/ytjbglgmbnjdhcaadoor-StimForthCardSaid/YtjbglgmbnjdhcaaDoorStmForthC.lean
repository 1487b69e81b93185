/- PROVED HERE: StimForth: for every two texts and every two sizes the statement's Go function returns true and leaves its arguments as they were; the seven listed variables of the library are tied to the program's text. No condition. -/
import Derived.Test.YtjbglgmbnjdhcaaDoorStmW
import Derived.SizedLaws
import Derived.ChangeMaps5
import Derived.Test.YtjbglgmbnjdhcaaDoorStmV
import Derived.Test.YtjbglgmbnjdhcaaDoorCards
import Derived.SevenTiedAt
import Derived.Deep.DeepHandedRow
namespace Go.Proofs.YtjbglgmbnjdhcaaDoor
open Go.ChangeShapes Go.WideShapes Go.ChangeAt Go.RowKit

set_option maxRecDepth 100000 in
theorem stimForth_lifted (os : Os) (started : os.Started) (H : Type) (enc : TypeId × Value → H) :
    ReturnsInHanded {} Tryd.checked os 4 .any (fun w args => (Rows.stimForthSpec.pre enc Tryd.prog Tryd.f4 [] false w args ∧ laidMetH Tryd.prog laid7 w) ∧ sizedMet enc Tryd.prog Tryd.f4 (OpenSpec.ofChange Rows.stimForthSpec) false w args)
      (Rows.stimForthSpec.post enc Tryd.prog Tryd.f4 false true false false) := by
  refine returnsInHanded_of_row (C := Tryd.checked) (s := OpenSpec.ofChange Rows.stimForthSpec) (F := fun _ _ => id) (laid := laid7) (conds := []) (apart := false) (fresh := true) (handsOn := false) (again := false) ownNone started (by kernel_rfl) Tryd.func4 ?_ ?_
  · exact ChangeSpec.witness_shaped (enc := enc) (C := Tryd.checked) (os := os) (X := fun w _ => laidMetH Tryd.prog laid7 w) false (World.laidAll Tryd.prog os laid7) #[.string ⟨#[]⟩, .string ⟨#[]⟩, .agg #[.int .i64 0, .int .i64 0]] 8 (World.laidAll_os _ _ _) (World.shaped_of_ZipB (by kernel_rfl) (by kernel_rfl)) (by kernel_rfl) (by kernel_rfl) (by kernel_rfl) (met7 os _)
  · intro W base args ds gs before hval0 hW _ _ hsz0 hL hsh _
    have hsz : (DataW.weightsEach Tryd.prog (Tryd.f4.params.toList ++ Rows.stimForthSpec.plain.varTypes Tryd.prog) (ds ++ gs)).all (· ≤ reachBytes) = true := hsz0
    have hval : ∀ (j : Nat) t v, Tryd.f4.params[j]? = some t → args[j]? = some v → Value.okWide Tryd.prog W .any base t v := hval0
    have hW' := hW
    obtain ⟨p, q, hA0, hV, rfl, hfz, hnd⟩ := hW
    have hA : DataW.TrodAll enc Tryd.prog W 0 (fun _ => true) true Tryd.f4.params.toList args.toList ds p := hA0
    have hA1 := hA
    rw [Tryd.params4] at hA hval hsz
    obtain ⟨v0, v1, v2, d0, d1, d2, p0, p1, p2, rfl, rfl, rfl, h0, h1, h2⟩ := trodAll_three hA
    obtain ⟨rfl, rfl⟩ := trodVars_none hV
    clear hA0 hval0 hsz0
    try simp only [List.append_nil] at hW'
    have hlt : ∀ x ∈ p0 ++ p1 ++ p2, x.block < W.heap.size := fun x hx => hW'.lt x (by simpa using hx)
    obtain ⟨s0, rfl, rfl, rfl, _⟩ := Go.ChangeMaps.open_string Tryd.underlying9 (hval 0 9 v0 rfl rfl) h0
    obtain ⟨s1, rfl, rfl, rfl, _⟩ := Go.ChangeMaps.open_string Tryd.underlying9 (hval 1 9 v1 rfl rfl) h1
    obtain ⟨L, n, rfl⟩ := arg_size (hval 2 30 v2 rfl rfl) h2
    have hs0 : s0.data.toList.length ≤ reachBytes := sized_string hsz (j := 0) rfl rfl
    have hs1 : s1.data.toList.length ≤ reachBytes := sized_string hsz (j := 1) rfl rfl
    have hwk := stimForth_any W W.heap.size s0.data.toList s1.data.toList (by simp only [reachBytes] at hs0; omega) (by simp only [reachBytes] at hs1; omega) L n (libB7 hL (max7 hsh)) (Nat.le_refl _)
    rw [strB_of, strB_of] at hwk
    refine hwk.mono fun e W' ⟨he, hbw⟩ => ?_
    subst he
    exact ⟨_, rfl, law_post rfl (by rw [Tryd.params4]; exact of_decide_eq_true (by kernel_rfl)) rfl hW' hA1 hlt rfl rfl rfl hbw⟩
theorem stimForth_row : Rows.StimForthSaid :=
  OpenClaim.holds_of_wide 4 Tryd.f4 rfl rfl rfl rfl rfl rfl rfl ⟨rfl, rfl, rfl, rfl, rfl⟩ rfl rfl rfl rfl rfl (by kernel_rfl) Tryd.func4 (by kernel_rfl)
    (of_decide_eq_true (by kernel_rfl)) (by unfold Func.isWrapper; first | (rw [if_pos (by decide +kernel)]; kernel_rfl) | (rw [if_neg (by decide +kernel)]; exact ⟨rfl, rfl⟩))
    (fun os started H enc _ => stimForth_lifted os started H enc)

/-- StimForth: for every two texts and every two sizes the statement's Go function returns true and leaves its arguments as they were. No condition. -/
theorem stimForth_card : Rows.StimForthCardSaid :=
  Claim7.holds_tied_plain_at .later [] [.data, .data, .data, .data, .sentinel, .sentinel, .pinned] true Rows.stimForthCard.stood.harness true
    stimForth_row (fun _ h => by cases h) (by kernel_rfl) (fun _ h => by cases h) stimForth_row_tie rfl ⟨rfl, rfl⟩ (by kernel_rfl) rfl
    (fun f fn hf hfn => by
      obtain rfl : f = 4 := Option.some.inj ((show Tryd.prog.funcNamed "trestle/trestlelaw12.StimForth" = some 4 by kernel_rfl).symm.trans hf) |>.symm
      obtain rfl : fn = Tryd.f4 := (Option.some.inj (Tryd.func4.symm.trans hfn)).symm
      exact ⟨by kernel_rfl, fun j t ht => by
        rw [Tryd.params4] at ht
        have hm : t ∈ [9, 9, 30] := by simpa using Array.mem_of_getElem? ht
        have hall : ([9, 9, 30].all fun u => !Tryd.prog.wantsStandIn u) = true := by kernel_rfl
        exact (show Tryd.prog.wantsStandIn t = false by simpa using List.all_eq_true.1 hall t hm)⟩)
    (by kernel_rfl)
#print axioms stimForth_card
end Go.Proofs.YtjbglgmbnjdhcaaDoor

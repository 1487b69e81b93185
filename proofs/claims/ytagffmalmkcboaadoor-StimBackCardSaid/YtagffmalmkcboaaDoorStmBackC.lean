/- PROVED HERE: StimBack: for every witness and every two sizes the statement's Go function returns true and leaves its arguments as they were; the seven listed variables of the library are tied to the program's text. No condition. -/
import Derived.Test.YtagffmalmkcboaaDoorStmU
import Derived.Test.YtagffmalmkcboaaDoorStmV
import Derived.Test.YtagffmalmkcboaaDoorCards
import Derived.SevenTiedAt
import Derived.Deep.DeepHandedRow
namespace Go.Proofs.YtagffmalmkcboaaDoor
open Go.ChangeShapes Go.WideShapes Go.ChangeAt Go.RowKit

section
variable {H : Type} {enc : TypeId × Value → H} {W : World}
set_option maxRecDepth 100000 in
theorem arg_size {base : Nat} {v : Value} {d : DataW H} {ps : List MemPlace}
    (hval : Value.okWide Tryd.prog W .any base 46 v) (h : DataW.Trod enc Tryd.prog W 0 (fun _ => true) true 46 v d ps) : ∃ a b : Int, v = .agg #[.int .i64 a, .int .i64 b] := by
  obtain ⟨cs, rfl, hcs⟩ := okWide_struct Tryd.underlying46 hval
  obtain ⟨fuel, hf⟩ := h
  obtain ⟨y0, y1, n, _, hl, h0, h1⟩ := trod_struct2 Tryd.underlying46 hf
  have hcl : cs.size = 2 := by rw [hcs]; kernel_rfl
  obtain ⟨l⟩ := cs
  match l, hcl with
  | [c0, c1], _ =>
  simp [Value.cells, one_int] at h0 h1
  obtain ⟨z0, e0, _⟩ := cell_int h0
  obtain ⟨z1, e1, _⟩ := cell_int h1
  simp only [encI, List.cons.injEq, and_true] at e0 e1
  subst e0 e1
  exact ⟨z0, z1, rfl⟩
end
set_option maxRecDepth 100000 in
theorem stimBack_lifted (os : Os) (started : os.Started) (H : Type) (enc : TypeId × Value → H) :
    ReturnsInHanded {} Tryd.checked os 5 .any (fun w args => (Rows.stimBackSpec.pre enc Tryd.prog Tryd.f5 [] false w args ∧ laidMetH Tryd.prog laid7 w) ∧ sizedMet enc Tryd.prog Tryd.f5 (OpenSpec.ofChange Rows.stimBackSpec) false w args)
      (Rows.stimBackSpec.post enc Tryd.prog Tryd.f5 false true false false) := by
  refine returnsInHanded_of_row (C := Tryd.checked) (s := OpenSpec.ofChange Rows.stimBackSpec) (F := fun _ _ => id) (laid := laid7) (conds := []) (apart := false) (fresh := true) (handsOn := false) (again := false) ownNone started (by kernel_rfl) Tryd.func5 ?_ ?_
  · exact ChangeSpec.witness_shaped (enc := enc) (C := Tryd.checked) (os := os) (X := fun w _ => laidMetH Tryd.prog laid7 w) false (World.laidAll Tryd.prog os laid7) #[.agg #[.int .i64 0, .slice none 0 0, .slice none 0 0, .slice none 0 0, .int .i64 0], .agg #[.int .i64 0, .int .i64 0]] 8 (World.laidAll_os _ _ _) (World.shaped_of_ZipB (by kernel_rfl) (by kernel_rfl)) (by kernel_rfl) (by kernel_rfl) (by kernel_rfl) (met7 os _)
  · intro W base args ds gs before hval0 hW _ _ _ hL hsh _
    have hval : ∀ (j : Nat) t v, Tryd.f5.params[j]? = some t → args[j]? = some v → Value.okWide Tryd.prog W .any base t v := hval0
    have hW' := hW
    obtain ⟨p, q, hA0, hV, rfl, hfz, hnd⟩ := hW
    have hA : DataW.TrodAll enc Tryd.prog W 0 (fun _ => true) true Tryd.f5.params.toList args.toList ds p := hA0
    have hA1 := hA
    rw [Tryd.params5] at hA hval
    obtain ⟨v0, v1, d0, d1, p0, p1, rfl, rfl, rfl, h0, h1⟩ := trodAll_two hA
    obtain ⟨rfl, rfl⟩ := trodVars_none hV
    clear hA0 hval0
    try simp only [List.append_nil] at hW'
    have hlt : ∀ x ∈ p0 ++ p1, x.block < W.heap.size := fun x hx => hW'.lt x (by simpa using hx)
    obtain ⟨x, vp, vi, vr, rfl, hin, hwf⟩ := arg_wit (hval 0 44 v0 rfl rfl) h0 (fun x hx => hlt x (by simp [hx]))
    obtain ⟨L, n, rfl⟩ := arg_size (hval 1 46 v1 rfl rfl) h1
    refine (stimBack_any W W.heap.size x vp vi vr hin hwf L n (libB7 hL (max7 hsh)) (Nat.le_refl _)).mono fun e W' ⟨he, hbw⟩ => ?_
    subst he
    exact ⟨_, rfl, law_post rfl (by rw [Tryd.params5]; exact of_decide_eq_true (by kernel_rfl)) rfl hW' hA1 hlt rfl rfl rfl hbw⟩
theorem stimBack_row : Rows.StimBackSaid :=
  OpenClaim.holds_of_wide 5 Tryd.f5 rfl rfl rfl rfl rfl rfl rfl ⟨rfl, rfl, rfl, rfl, rfl⟩ rfl rfl rfl rfl rfl (by kernel_rfl) Tryd.func5 (by kernel_rfl)
    (of_decide_eq_true (by kernel_rfl)) (by unfold Func.isWrapper; first | (rw [if_pos (by decide +kernel)]; kernel_rfl) | (rw [if_neg (by decide +kernel)]; exact ⟨rfl, rfl⟩))
    (fun os started H enc _ => stimBack_lifted os started H enc)

/-- StimBack: for every witness and every two sizes the statement's Go function returns true and leaves its arguments as they were. No condition. -/
theorem stimBack_card : Rows.StimBackCardSaid :=
  Claim7.holds_tied_plain_at .later [] [.data, .data, .data, .data, .sentinel, .sentinel, .pinned] true Rows.stimBackCard.stood.harness true
    stimBack_row (fun _ h => by cases h) (by kernel_rfl) (fun _ h => by cases h) stimBack_row_tie rfl ⟨rfl, rfl⟩ (by kernel_rfl) rfl
    (fun f fn hf hfn => by
      obtain rfl : f = 5 := Option.some.inj ((show Tryd.prog.funcNamed "trestle/trestlelaw12.StimBack" = some 5 by kernel_rfl).symm.trans hf) |>.symm
      obtain rfl : fn = Tryd.f5 := (Option.some.inj (Tryd.func5.symm.trans hfn)).symm
      exact ⟨by kernel_rfl, fun j t ht => by
        rw [Tryd.params5] at ht
        have hm : t ∈ [44, 46] := by simpa using Array.mem_of_getElem? ht
        have hall : ([44, 46].all fun u => !Tryd.prog.wantsStandIn u) = true := by kernel_rfl
        exact (show Tryd.prog.wantsStandIn t = false by simpa using List.all_eq_true.1 hall t hm)⟩)
    (by kernel_rfl)
#print axioms stimBack_card
end Go.Proofs.YtagffmalmkcboaaDoor

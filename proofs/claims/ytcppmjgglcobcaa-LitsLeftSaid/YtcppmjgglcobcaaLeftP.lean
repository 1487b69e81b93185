/- PROVED HERE: LitsLeft: for every clause, every model and every choice of its variables the statement's Go function returns true and leaves its arguments as they were. No condition. -/
import Derived.Test.YtcppmjgglcobcaaLeft
import Derived.Test.YtcppmjgglcobcaaArgs
namespace Go.Proofs.Ytcppmjgglcobcaa
open Go.ChangeShapes Go.WideShapes Go.ChangeAt Go.RowKit

set_option maxRecDepth 100000 in
theorem left_lifted (os : Os) (started : os.Started) (H : Type) (enc : TypeId × Value → H) :
    ReturnsInHanded {} Try.checked os 8 .any (Rows.litsLeftSpec.pre6 enc Try.prog Try.f8 Rows.litsLeftRow.domain false) (Rows.litsLeftSpec.post enc Try.prog Try.f8 false true false false) := by
  refine returnsInHanded_of_change_sized (C := Try.checked) ownNone started (by kernel_rfl) Try.func8
    (ChangeSpec.witness6 (enc := enc) (C := Try.checked) false ⟨#[], #[.slice none 0 0, .slice none 0 0, .slice none 0 0], []⟩ 8 (by kernel_rfl) (by kernel_rfl) (by kernel_rfl) (by kernel_rfl)) ?_
  intro W base args ds gs before hval0 hW _ hsz0 _
  have hsz : (DataW.weightsEach Try.prog (Try.f8.params.toList ++ Rows.litsLeftSpec.plain.varTypes Try.prog) (ds ++ gs)).all (· ≤ reachBytes) = true := hsz0
  have hval : ∀ (j : Nat) t v, Try.f8.params[j]? = some t → args[j]? = some v → Value.okWide Try.prog W .any base t v := hval0
  have hW' := hW
  obtain ⟨p, q, hA0, hV, rfl, hfz, hnd⟩ := hW
  have hA : DataW.TrodAll enc Try.prog W 0 (fun _ => true) true Try.f8.params.toList args.toList ds p := hA0
  have hA1 := hA
  rw [Try.params8] at hA hval hsz
  obtain ⟨v0, v1, v2, d0, d1, d2, p0, p1, p2, rfl, rfl, rfl, h0, h1, h2⟩ := trodAll_three hA
  obtain ⟨rfl, rfl⟩ := trodVars_none hV
  clear hA0 hval0 hsz0
  simp only [List.append_nil] at hW'
  have hlt : ∀ x ∈ p0 ++ p1 ++ p2, x.block < W.heap.size := fun x hx => hW'.lt x (by simpa using hx)
  obtain ⟨zs0, hz0, hd0, _⟩ := arg_ints Try.underlying28 (hval 0 28 v0 rfl rfl) h0 (fun x hx => hlt x (by simp [hx]))
  obtain ⟨bs1, hz1, hd1⟩ := arg_bools Try.underlying29 (hval 1 29 v1 rfl rfl) h1 (fun x hx => hlt x (by simp [hx]))
  obtain ⟨zs2, hz2, hd2, _⟩ := arg_ints Try.underlying27 (hval 2 27 v2 rfl rfl) h2 (fun x hx => hlt x (by simp [hx]))
  refine (left_walk W v0 v1 v2 zs0 bs1 zs2 hz0 hz1 hz2).mono fun e W' ⟨he, hbw⟩ => ?_
  subst he
  exact ⟨_, rfl, law_post rfl (by rw [Try.params8]; exact of_decide_eq_true (by kernel_rfl)) rfl hW' hA1 hlt rfl rfl rfl hbw⟩

theorem left_over : Rows.litsLeftRow.holds Try.pinned (OpenSpec.ofChange Rows.litsLeftSpec) :=
  OpenClaim.holds_of_wide 8 Try.f8 rfl rfl rfl rfl rfl rfl rfl ⟨rfl, rfl, rfl, rfl, rfl⟩ rfl rfl rfl rfl rfl (by kernel_rfl) Try.func8 (by kernel_rfl)
    (of_decide_eq_true (by kernel_rfl)) (by unfold Func.isWrapper; first | (rw [if_pos (by decide +kernel)]; kernel_rfl) | (rw [if_neg (by decide +kernel)]; exact ⟨rfl, rfl⟩))
    (fun os started H enc _ => left_lifted os started H enc)

/-- LitsLeft: for every clause, every model and every choice of its variables the statement's Go function returns true and leaves its arguments as they were. No condition. -/
theorem litsLeft_holds : Rows.LitsLeftSaid := left_over
#print axioms litsLeft_holds
end Go.Proofs.Ytcppmjgglcobcaa

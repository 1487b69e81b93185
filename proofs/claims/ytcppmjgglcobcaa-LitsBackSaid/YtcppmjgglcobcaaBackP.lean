/- PROVED HERE: LitsBack: for every number and every clause the statement's Go function returns true and leaves its arguments as they were. No condition. -/
import Derived.Test.YtcppmjgglcobcaaBack
import Derived.Test.YtcppmjgglcobcaaArgs
namespace Go.Proofs.Ytcppmjgglcobcaa
open Go.ChangeShapes Go.WideShapes Go.ChangeAt Go.RowKit

theorem back_walk (w : World) (l : Int) (v : Value) (zs : List Int) (h : Ints w v zs) :
    Calls Try.prog 7 #[.int .i64 l, v] w fun e w' => e = .returned (.bool true) ∧ Below w.heap.size w w' := by
  by_cases hc : wrongE zs = 0 ∧ taut zs = false
  · obtain ⟨h1, h2⟩ := hc
    -- there is a normal form: the call itself finds it
    obtain ⟨ns, hns⟩ := nf_exists h1 h2
    cases hl : isC l
    · exact back_out_ok w l v zs ns hl h h1 h2 hns
    · exact back_in_ok w l v zs ns hl h h1 h2 hns
  · cases hl : isC l
    · exact back_out_err w l v zs hl h hc
    · exact back_in_err w l v zs hl h hc

set_option maxRecDepth 100000 in
theorem back_lifted (os : Os) (started : os.Started) (H : Type) (enc : TypeId × Value → H) :
    ReturnsInHanded {} Try.checked os 7 .any (Rows.litsBackSpec.pre6 enc Try.prog Try.f7 Rows.litsBackRow.domain false) (Rows.litsBackSpec.post enc Try.prog Try.f7 false true false false) := by
  refine returnsInHanded_of_change_sized (C := Try.checked) ownNone started (by kernel_rfl) Try.func7
    (ChangeSpec.witness6 (enc := enc) (C := Try.checked) false ⟨#[], #[.int .i64 0, .slice none 0 0], []⟩ 8 (by kernel_rfl) (by kernel_rfl) (by kernel_rfl) (by kernel_rfl)) ?_
  intro W base args ds gs before hval0 hW _ _ _
  have hval : ∀ (j : Nat) t v, Try.f7.params[j]? = some t → args[j]? = some v → Value.okWide Try.prog W .any base t v := hval0
  have hW' := hW
  obtain ⟨p, q, hA0, hV, rfl, hfz, hnd⟩ := hW
  have hA : DataW.TrodAll enc Try.prog W 0 (fun _ => true) true Try.f7.params.toList args.toList ds p := hA0
  have hA1 := hA
  rw [Try.params7] at hA hval
  obtain ⟨v0, v1, d0, d1, p0, p1, rfl, rfl, rfl, h0, h1⟩ := trodAll_two hA
  obtain ⟨rfl, rfl⟩ := trodVars_none hV
  obtain ⟨a0, rfl, rfl, rfl, w0⟩ := open_int Try.underlying3 (hval 0 3 v0 rfl rfl) h0
  clear hA0 hval0
  simp only [List.append_nil] at hW'
  have hlt : ∀ x ∈ [] ++ p1, x.block < W.heap.size := fun x hx => hW'.lt x (by simpa using hx)
  obtain ⟨zs, hz, _, _⟩ := arg_ints Try.underlying28 (hval 1 28 v1 rfl rfl) h1 (fun x hx => hlt x (by simp [hx]))
  refine (back_walk W a0 v1 zs hz).mono fun e W' ⟨he, hbw⟩ => ?_
  subst he
  exact ⟨_, rfl, law_post rfl (by rw [Try.params7]; exact of_decide_eq_true (by kernel_rfl)) rfl hW' hA1 hlt rfl rfl rfl hbw⟩

theorem back_over : Rows.litsBackRow.holds Try.pinned (OpenSpec.ofChange Rows.litsBackSpec) :=
  OpenClaim.holds_of_wide 7 Try.f7 rfl rfl rfl rfl rfl rfl rfl ⟨rfl, rfl, rfl, rfl, rfl⟩ rfl rfl rfl rfl rfl (by kernel_rfl) Try.func7 (by kernel_rfl)
    (of_decide_eq_true (by kernel_rfl)) (by unfold Func.isWrapper; first | (rw [if_pos (by decide +kernel)]; kernel_rfl) | (rw [if_neg (by decide +kernel)]; exact ⟨rfl, rfl⟩))
    (fun os started H enc _ => back_lifted os started H enc)

/-- LitsBack: for every number and every clause the law returns true, and its arguments read afterwards as before. -/
theorem litsBack_holds : Rows.LitsBackSaid := back_over
#print axioms litsBack_holds
end Go.Proofs.Ytcppmjgglcobcaa

/- PROVED HERE: LitsNumbers: for every integer, the statement's Go function returns true and leaves its argument as it was. No condition. -/
import Derived.Test.YtcppmjgglcobcaaWorks
import Derived.Test.YtcppmjgglcobcaaLift
namespace Go.Proofs.Ytcppmjgglcobcaa
open Go.ChangeShapes Go.WideShapes Go.ChangeAt Go.RowKit

set_option maxHeartbeats 1000000 in
theorem numbers_walk (l : Int) (w : World) : Calls Try.prog 3 #[.int .i64 l] w fun e w' => e = .returned (.bool true) ∧ Below w.heap.size w w' := by
  have hn := names_any w
  have hw := works_any w
  have hNot : ∃ a e : Int, (∀ w, Calls Try.prog 9 #[.int .i64 l] w fun x w' => x = .returned (.tuple #[.int .i64 a, .int .i64 e]) ∧ w = w') ∧ (∀ w, Calls Try.prog 10 #[.int .i64 l] w fun x w' => x = .returned (.tuple #[.int .i64 a, .int .i64 e]) ∧ w = w') := by
    cases h : isC l
    · exact ⟨_, _, fun w => Not_no l w h, fun w => RNot_no l w h⟩
    · exact ⟨_, _, fun w => Not_yes l w h, fun w => RNot_yes l w h⟩
  have hTo : ∃ a e : Int, (∀ w, Calls Try.prog 11 #[.int .i64 l] w fun x w' => x = .returned (.tuple #[.int .i64 a, .int .i64 e]) ∧ w = w') ∧ (∀ w, Calls Try.prog 12 #[.int .i64 l] w fun x w' => x = .returned (.tuple #[.int .i64 a, .int .i64 e]) ∧ w = w') := by
    cases h : isC l
    · exact ⟨_, _, fun w => To_no l w h, fun w => RTo_no l w h⟩
    · exact ⟨_, _, fun w => To_yes l w h, fun w => RTo_yes l w h⟩
  have hFrom : ∃ a e : Int, (∀ w, Calls Try.prog 13 #[.int .i64 l] w fun x w' => x = .returned (.tuple #[.int .i64 a, .int .i64 e]) ∧ w = w') ∧ (∀ w, Calls Try.prog 14 #[.int .i64 l] w fun x w' => x = .returned (.tuple #[.int .i64 a, .int .i64 e]) ∧ w = w') := by
    cases h : isX l
    · exact ⟨_, _, fun w => From_no l w h, fun w => RFrom_no l w h⟩
    · exact ⟨_, _, fun w => From_yes l w h, fun w => RFrom_yes l w h⟩
  obtain ⟨a1, e1, hA, hA'⟩ := hNot
  obtain ⟨a2, e2, hB, hB'⟩ := hTo
  obtain ⟨a3, e3, hC, hC'⟩ := hFrom
  have t1 : (a1 == a1) = true := by simp
  have t2 : (a2 == a2) = true := by simp
  have t3 : (a3 == a3) = true := by simp
  have t4 : (e1 == e1) = true := by simp
  have t5 : (e2 == e2) = true := by simp
  have t6 : (e3 == e3) = true := by simp
  go_enter Try.func3, Try.ntmps3
  go_wp2_with (first
    | (go_at_call 9; refine (hA _).mono ?_; rintro e w' ⟨rfl, rfl⟩)
    | (go_at_call 10; refine (hA' _).mono ?_; rintro e w' ⟨rfl, rfl⟩)
    | (go_at_call 11; refine (hB _).mono ?_; rintro e w' ⟨rfl, rfl⟩)
    | (go_at_call 12; refine (hB' _).mono ?_; rintro e w' ⟨rfl, rfl⟩)
    | (go_at_call 13; refine (hC _).mono ?_; rintro e w' ⟨rfl, rfl⟩)
    | (go_at_call 14; refine (hC' _).mono ?_; rintro e w' ⟨rfl, rfl⟩)
    | (go_at_call 15; refine hn.mono ?_; rintro e w' ⟨rfl, rfl⟩)
    | (go_at_call 16; refine hw.mono ?_; rintro e w1 ⟨rfl, hb⟩))
  go_ret
  exact ⟨rfl, hb⟩

set_option maxRecDepth 100000 in
theorem numbers_lifted (os : Os) (started : os.Started) (H : Type) (enc : TypeId × Value → H) :
    ReturnsInHanded {} Try.checked os 3 .any (Rows.litsNumbersSpec.pre6 enc Try.prog Try.f3 Rows.litsNumbersRow.domain false) (Rows.litsNumbersSpec.post enc Try.prog Try.f3 false true false false) := by
  refine returnsInHanded_of_change (C := Try.checked) ownNone started (by kernel_rfl) Try.func3
    (ChangeSpec.witness6 (enc := enc) (C := Try.checked) false ⟨#[], #[.int .i64 0], []⟩ 8 (by kernel_rfl) (by kernel_rfl) (by kernel_rfl) (by kernel_rfl)) ?_
  intro W base args ds gs before hval0 hW hcnd _
  have hval : ∀ (j : Nat) t v, Try.f3.params[j]? = some t → args[j]? = some v → Value.okWide Try.prog W .any base t v := hval0
  have hW' := hW
  obtain ⟨p, q, hA0, hV, rfl, hfz, hnd⟩ := hW
  have hA : DataW.TrodAll enc Try.prog W 0 (fun _ => true) true Try.f3.params.toList args.toList ds p := hA0
  have hA1 := hA
  rw [Try.params3] at hA hval
  obtain ⟨v0, vs0, d0, ds0, p0, q0, hargs, rfl, rfl, h0, r0⟩ := trodAll_cons hA
  obtain ⟨rfl, rfl, rfl⟩ := trodAll_nil r0
  obtain rfl : args = #[v0] := by cases args; simp_all
  obtain ⟨rfl, rfl⟩ := trodVars_none hV
  obtain ⟨a0, rfl, rfl, rfl, w0⟩ := open_int Try.underlying3 (hval 0 3 v0 rfl rfl) h0
  clear hA0 hval0
  simp only [List.append_nil] at hW'
  have hlt : ∀ x ∈ ([] : List MemPlace), x.block < W.heap.size := by simp
  refine (numbers_walk a0 W).mono fun e W' ⟨he, hb⟩ => ?_
  subst he
  exact ⟨_, rfl, law_post rfl (by rw [Try.params3]; exact of_decide_eq_true (by kernel_rfl)) rfl hW' hA1 hlt rfl rfl rfl hb⟩

theorem numbers_over : Rows.litsNumbersRow.holds Try.pinned (OpenSpec.ofChange Rows.litsNumbersSpec) :=
  OpenClaim.holds_of_wide 3 Try.f3 rfl rfl rfl rfl rfl rfl rfl ⟨rfl, rfl, rfl, rfl, rfl⟩ rfl rfl rfl rfl rfl (by kernel_rfl) Try.func3 (by kernel_rfl)
    (of_decide_eq_true (by kernel_rfl)) (by unfold Func.isWrapper; first | (rw [if_pos (by decide +kernel)]; kernel_rfl) | (rw [if_neg (by decide +kernel)]; exact ⟨rfl, rfl⟩))
    (fun os started H enc _ => numbers_lifted os started H enc)

/-- LitsNumbers: for every integer the law returns true, and its argument reads afterwards as before. -/
theorem litsNumbers_holds : Rows.LitsNumbersSaid := numbers_over
#print axioms litsNumbers_holds
end Go.Proofs.Ytcppmjgglcobcaa

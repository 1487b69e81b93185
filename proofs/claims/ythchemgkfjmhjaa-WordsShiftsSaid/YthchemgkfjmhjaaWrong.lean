/- The document's wrong: a fault. -/
import Derived.Test.YthchemgkfjmhjaaStr
namespace Go.Proofs.Ythchemgkfjmhjaa
open Go.RowKit

theorem wrong_any (a c : Int) (w : World) : Calls Try.prog 41 #[.int .i64 a, .int .i64 c] w fun e w' => e = .returned (fault a c) ∧ Below w.heap.size w w' := by
  go_enter Try.func41, Try.ntmps41
  go_wp2
  refine bodyPost_ret (v := fault a c) (by simp [results, Try.results41, go_sem]) rfl ⟨rfl, ?_⟩
  exact (Below.refl _ _).alloc (Nat.le_refl _) _
end Go.Proofs.Ythchemgkfjmhjaa

/- The document's wrong: a fault. -/
import Derived.Test.YthchemgkfjmhjaaDoorStr
namespace Go.Proofs.YthchemgkfjmhjaaDoor
open Go.RowKit

theorem wrong_any (a c : Int) (w : World) : Calls Tryd.prog 23 #[.int .i64 a, .int .i64 c] w fun e w' => e = .returned (fault a c) ∧ Below w.heap.size w w' := by
  go_enter Tryd.func23, Tryd.ntmps23
  go_wp2
  refine bodyPost_ret (v := fault a c) (by simp [results, Tryd.results23, go_sem]) rfl ⟨rfl, ?_⟩
  exact (Below.refl _ _).alloc (Nat.le_refl _) _
end Go.Proofs.YthchemgkfjmhjaaDoor

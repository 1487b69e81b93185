/- The contract of checkUsed: the literals that are used. -/
import Derived.Test.YtagffmalmkcboaaDoorDefd
import Derived.Test.YtagffmalmkcboaaDoorSizes
import Derived.Laws.Tables
import Derived.Deep.RegionWith
namespace Go.Proofs.YtagffmalmkcboaaDoor
open Go.RowKit

theorem index_three_any (x y z : Value) (w : World) (k : Int) : (Instr.index 109 (.agg #[x, y, z]) (.int .i64 k)).run Tryd.prog w = if k = 0 then .ok x w else if k = 1 then .ok y w else if k = 2 then .ok z w else (Instr.index 109 (.agg #[x, y, z]) (.int .i64 k)).run Tryd.prog w := by
  by_cases h0 : k = 0
  · subst h0; rw [if_pos rfl]; kernel_rfl
  · by_cases h1 : k = 1
    · subst h1; rw [if_neg (by decide), if_pos rfl]; kernel_rfl
    · by_cases h2 : k = 2
      · subst h2; rw [if_neg (by decide), if_neg (by decide), if_pos rfl]; kernel_rfl
      · rw [if_neg h0, if_neg h1, if_neg h2]
@[go_sem] theorem index_three_0 (x y z : Value) (w : World) : (Instr.index 109 (.agg #[x, y, z]) (.int .i64 0)).run Tryd.prog w = .ok x w := by rw [index_three_any, if_pos rfl]
@[go_sem] theorem index_three_1 (x y z : Value) (w : World) : (Instr.index 109 (.agg #[x, y, z]) (.int .i64 1)).run Tryd.prog w = .ok y w := by rw [index_three_any, if_neg (by decide), if_pos rfl]
@[go_sem] theorem index_three_2 (x y z : Value) (w : World) : (Instr.index 109 (.agg #[x, y, z]) (.int .i64 2)).run Tryd.prog w = .ok z w := by rw [index_three_any, if_neg (by decide), if_neg (by decide), if_pos rfl]

def gateE (tb : List Bool) (z : Tri) : Int := if useE tb z.2.1 = 0 then useE tb z.2.2 else useE tb z.2.1
def usedL (C : Circ) (tb : List Bool) := firstE (fun z : Tri => useE tb z.2.1) C.latches 0
def usedI (zs : List Int) (tb : List Bool) := firstE (useE tb) zs 0
def usedJ (C : Circ) (tb : List Bool) := firstE (fun zs => (usedI zs tb).2) C.justice 0
def usedA (C : Circ) (tb : List Bool) := firstE (gateE tb) C.ands 0
/-- What is wrong with what is used. -/
def usedR (C : Circ) (tb : List Bool) : Int × Int :=
  thenE (usedL C tb) (thenE (usedI C.outputs tb) (thenE (usedI C.bads tb) (thenE (usedI C.constraints tb) (thenE (usedJ C tb) (thenE (usedI C.fairness tb) (usedA C tb))))))
end Go.Proofs.YtagffmalmkcboaaDoor

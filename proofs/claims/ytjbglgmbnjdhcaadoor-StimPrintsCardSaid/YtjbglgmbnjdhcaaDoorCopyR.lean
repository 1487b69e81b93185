/- Copy's drawn region (ten calls whose answers are new lists): by the rule of webs. -/
import Derived.Test.YtjbglgmbnjdhcaaDoorOrdW
import Derived.Test.YtjbglgmbnjdhcaaDoorClone
import Derived.Test.YtjbglgmbnjdhcaaDoorWesM
import Derived.BigRegion
namespace Go.Proofs.YtjbglgmbnjdhcaaDoor
open Go.RowKit

theorem region_lit {P : Program} {Q : Exit → Act → World → Prop} {a : Act} {w : World} {id : Nat} {ops : Array Oper} {dr : Bool} (h : ∀ ops', ops' = ops → (Code.region id ops' dr).wp P Q a w) : (Code.region id ops dr).wp P Q a w := h ops rfl
theorem wp_val {P : Program} {o : Oper} {a : Act} {w w' : World} {v : Value} {K : Act → World → Prop} {Q : Exit → Act → World → Prop} (h : (execOp a.eval o).run P w = .ok (.value v) w') (hk : K (a.put o.dst v) w') : o.wp P a w K Q := by
  unfold Oper.wp; rw [h]; exact hk
theorem wp_enter {P : Program} {o : Oper} {a : Act} {w : World} {f : FuncId} {args : Array Value} {K : Act → World → Prop} {Q : Exit → Act → World → Prop} (h : (execOp a.eval o).run P w = .ok (.enter f args) w)
    (hc : Calls P f args w (fun e w' => ∃ v, e = .returned v ∧ K (a.put o.dst v) w')) : o.wp P a w K Q := by
  unfold Oper.wp; rw [h, Oper.upon_enter]
  exact hc.mono (by rintro e w' ⟨v, rfl, hk⟩; exact hk)
theorem own_slice_k {w : World} {B n k : Nat} {t : TypeId} {v : Value} {xs : List Value} (h : w.ownsRow B t k v n xs) : ∃ A c, v = .slice A n c := by
  rcases h.2 with ⟨rfl, rfl⟩ | ⟨g, cap, cur, rfl, _⟩
  · exact ⟨_, _, rfl⟩
  · exact ⟨_, _, rfl⟩
theorem load_at (t : TypeId) (he : ∀ (a : Addr) (w : World), (Instr.loadAt t (.pointer (some a))).run Tryd.prog w = (load a).run Tryd.prog w) {a : Addr} {w : World} {v : Value} (h : w.cell? a = some v) : (Instr.loadAt t (.pointer (some a))).run Tryd.prog w = .ok v w := by
  rw [he, run_load, h]
theorem run_value {P : Program} {s : Sem Value} {v : Value} {w w' : World} (h : s.run P w = .ok v w') : (do pure (Next.value (← s)) : Sem Next).run P w = .ok (.value v) w' := by
  rw [Sem.run_bind, h]; rfl
def noDst (ops : Array Oper) (t : Tmp) : Bool := (List.range ops.size).all fun j => dstOf ops j != some t
theorem noDst_spec {ops : Array Oper} {t : Tmp} (h : noDst ops t = true) : ∀ j, j < ops.size → dstOf ops j ≠ some t := fun j hj => by
  have := List.all_eq_true.1 h j (List.mem_range.2 hj)
  simpa using this
end Go.Proofs.YtjbglgmbnjdhcaaDoor

/- From a row's listed variables to the two tables of tern. -/
import Derived.Test.YtbeaicmjohlboaaGreatDoorTrnB
import Derived.Test.YtbeaicmjohlboaaGreatDoorTie
import Derived.Lib.LaidTab
import Derived.ChangeMaps5
import Derived.MapKept
import Derived.LaidMore
import Derived.Stop.Joined
namespace Go.Proofs.YtbeaicmjohlboaaGreatDoor
open Go.ChangeShapes Go.WideShapes Go.ChangeAt Go.RowKit

abbrev laidT : List (String × DataW Unit) := [("trestle/tern.both", Rows.laid_trestle_tern_both), ("trestle/tern.contrary", Rows.laid_trestle_tern_contrary)]
/-- An array of three arrays of three integers, cell for cell. -/
theorem cells_of_grid {H : Type} {enc : TypeId × Value → H} {P : Program} {w : World} {base : Nat} {sp : Nat → Bool} {held : Bool} {fuel : Nat} {t e f : TypeId} {k : IntKind} {cs : List Value} {a b c : List Int} {p : List MemPlace}
    (ht : P.underlying t = some (.array 3 e)) (he : P.underlying e = some (.array 3 f)) (hf : P.underlying f = some (.int k)) (hcf : P.cellsOf f = 1) (hce : P.cellsOf e = 3) (hct : P.cellsOf t = 9)
    (h : DataW.trod enc P w base sp held fuel t cs = some (.agg [Lib.tabData k a, Lib.tabData k b, Lib.tabData k c], p)) : cs = (a ++ b ++ c).map fun z => Value.int k z := by
  cases fuel with
  | zero => simp [DataW.trod] at h
  | succ fuel =>
    simp only [DataW.trod, ht, hce] at h
    split at h
    · rename_i hl
      obtain ⟨xs, hm, hx⟩ := Option.map_eq_some_iff.1 h
      have hxs : xs.map (·.1) = [Lib.tabData k a, Lib.tabData k b, (Lib.tabData k c : DataW H)] := by
        have := congrArg Prod.fst hx
        simpa using this
      have one : ∀ (i : Nat) (z : List Int), i < 3 → ([Lib.tabData k a, Lib.tabData k b, (Lib.tabData k c : DataW H)])[i]? = some (Lib.tabData k z) → (cs.drop (i * 3)).take 3 = z.map fun z => Value.int k z := fun i z hi hz => by
        obtain ⟨b, hb, hf2⟩ := Lib.mapM_at hm i i (by simp [hi])
        have h2 : (xs.map (·.1))[i]? = some (Lib.tabData k z : DataW H) := by rw [hxs]; exact hz
        simp only [List.getElem?_map, hb, Option.map_some, Option.some.injEq] at h2
        obtain ⟨b1, b2⟩ := b
        simp only at h2
        subst h2
        exact Lib.cells_of_tab he hf hcf hce hf2
      have h0 := one 0 a (by omega) rfl
      have h1 := one 1 b (by omega) rfl
      have h2 := one 2 c (by omega) rfl
      have key : cs = (cs.drop (0 * 3)).take 3 ++ (cs.drop (1 * 3)).take 3 ++ (cs.drop (2 * 3)).take 3 := by
        have h9 : cs.length = 9 := by rw [hl, hct]
        clear h0 h1 h2 one hxs hx hm hl h
        match cs, h9 with
        | [x0, x1, x2, x3, x4, x5, x6, x7, x8], _ => rfl
      rw [h0, h1, h2] at key
      simpa using key
    · cases h
theorem gBoth : Tryz.prog.globalNamed "trestle/tern.both" = some 0 ∧ (Tryz.prog.globals[0]?).map (·.type) = some 124 := ⟨by kernel_rfl, by kernel_rfl⟩
theorem gContrary : Tryz.prog.globalNamed "trestle/tern.contrary" = some 1 ∧ (Tryz.prog.globals[1]?).map (·.type) = some 123 := ⟨by kernel_rfl, by kernel_rfl⟩
theorem both_data : (Rows.laid_trestle_tern_both : DataW Unit) = .agg [Lib.tabData .i64 [0, 0, 0], Lib.tabData .i64 [0, 1, 2], Lib.tabData .i64 [0, 2, 2]] := by kernel_rfl
theorem contrary_data : (Rows.laid_trestle_tern_contrary : DataW Unit) = Lib.tabData .i64 [1, 0, 2] := by kernel_rfl
theorem var_heap {P : Program} {W : World} {name : String} {g : Nat} {cs : Array Value} (hg : P.globalNamed name = some g) (h : W.var? P name = some cs) : ∃ t fr, W.heap[g]? = some (.cells cs t fr) := by
  unfold World.var? at h
  rw [hg] at h
  simp only [Option.bind_some] at h
  split at h
  · rename_i c t fr he
    injection h with h
    subst h
    exact ⟨_, _, he⟩
  · cases h
theorem tab_laidT {W : World} (h : laidMetH Tryz.prog laidT W) : TabC W := by
  rw [MakeChecks.laidMetH_plain _ _ _ (by kernel_rfl)] at h
  unfold laidT at h
  rw [both_data, contrary_data] at h
  obtain ⟨ps, ⟨g1, t1, cs1, fuel1, p1, q1, hg1, ht1, hv1, hd1, ⟨g2, t2, cs2, fuel2, p2, q2, hg2, ht2, hv2, hd2, _, _⟩, _⟩, _⟩ := h
  obtain rfl := Option.some.inj (gBoth.1.symm.trans hg1)
  obtain rfl := Option.some.inj (gBoth.2.symm.trans ht1)
  obtain rfl := Option.some.inj (gContrary.1.symm.trans hg2)
  obtain rfl := Option.some.inj (gContrary.2.symm.trans ht2)
  have e1 := cells_of_grid Tryz.underlying124 Tryz.underlying123 Tryz.underlying3 (by kernel_rfl) (by kernel_rfl) (by kernel_rfl) hd1
  have e2 := Lib.cells_of_tab Tryz.underlying123 Tryz.underlying3 (by kernel_rfl) (by kernel_rfl) hd2
  obtain ⟨u1, f1, h1⟩ := var_heap gBoth.1 hv1
  obtain ⟨u2, f2, h2⟩ := var_heap gContrary.1 hv2
  refine ⟨⟨u2, f2, ?_⟩, ⟨u1, f1, ?_⟩⟩
  · rw [h2]; congr 2; exact Array.ext' e2
  · rw [h1]; congr 2; exact Array.ext' e1
theorem door_metT (os : Os) (args : Array Value) : laidMetH Tryz.prog laidT ((World.doorLaid Tryz.prog 400 os).forCall (fun _ _ => 0) ⟨#[], args, []⟩).memory :=
  laidMetH_of_parts3 (fuel := 8) (laidMet_of_run' 8 (by kernel_rfl) (by kernel_rfl)) (by kernel_rfl) (by kernel_rfl)
end Go.Proofs.YtbeaicmjohlboaaGreatDoor

/- Ascii: the faces' deferred functions. -/
import Derived.Test.YtkkolefhfmlhfabDoorAscS
import Derived.Defers
import Derived.Recover
import Derived.Laws.Pointers
namespace Go.Proofs.YtkkolefhfmlhfabDoor
open Go.RowKit

theorem checkSize_ok (w : World) (s : Bs) (h : s.length ≤ 262144) : Calls Tryd.prog 22 #[.string (strB s)] w fun e w' => e = .returned (.tuple #[]) ∧ w' = w := by
  have hsz : (strB s).size = s.length := strB_size s
  have hI : (s.length : Int) ≤ 262144 := by omega
  generalize strB s = t at *
  go_enter Tryd.func22, Tryd.ntmps22
  go_wp2
  go_end0
  exact ⟨rfl, rfl⟩
theorem checkSize_long (w : World) (s : Bs) (h : 262144 < s.length) (hm : s.length ≤ 9223372036854775807) : Calls Tryd.prog 22 #[.string (strB s)] w fun e w' => e = pan 0 2 ∧ w' = w := by
  have hsz : (strB s).size = s.length := strB_size s
  have hI : (262144 : Int) < (s.length : Int) := by omega
  have HG := Lib.hid (giveUp_any w 0 2)
  have hm2 : (s.length : Int) ≤ 9223372036854775807 := by omega
  generalize strB s = t at *
  go_enter Tryd.func22, Tryd.ntmps22
  go_wp2_with (go_at_call 27; refine HG.out.mono ?_; rintro e w1 ⟨rfl, rfl⟩)
  exact ⟨rfl, rfl, rfl⟩
abbrev flt (a e : Int) : Value := .agg #[.int .i64 a, .int .i64 e]
set_option maxHeartbeats 2000000 in
theorem faultOf_nil (w : World) : Calls Tryd.prog 21 #[.nilIface] w fun e w' => e = .returned (flt 0 0) ∧ Below w.heap.size w w' := by
  have HB := Lib.hid ((Below.refl w.heap.size w).alloc (Nat.le_refl _) (.cells #[.int .i64 0, .int .i64 0] 25))
  go_enter Tryd.func21, Tryd.ntmps21
  go_wp2
  refine bodyPost_ret (results_cell_row (fn := Tryd.f21) rfl _ _ w.heap.size 25 #[.int .i64 0, .int .i64 0] (0, 0) _ rfl (Blk.new w _ _) Tryd.underlying25 rfl (by kernel_rfl)) rfl ?_
  exact ⟨rfl, HB.out⟩
theorem run_assertF (v : Value) (wx : World) : (Instr.typeAssert (.iface 25 v) 20 25 true).run Tryd.prog wx = .ok (.tuple #[v, .bool true]) wx := by
  simp [Instr.typeAssert, run_underlying Tryd.underlying25, go_sem, Result.andThen]
set_option maxHeartbeats 2000000 in
set_option maxRecDepth 100000 in
theorem faultOf_fault (w : World) (a e : Int) : Calls Tryd.prog 21 #[.iface 25 (flt a e)] w fun x w' => x = .returned (flt a e) ∧ Below w.heap.size w w' := by
  have hta := fun (wx : World) => run_assertF (flt a e) wx
  go_enter Tryd.func21, Tryd.ntmps21
  go_wp2
  refine bodyPost_ret (results_cell_row (fn := Tryd.f21) rfl _ _ w.heap.size 25 #[.int .i64 a, .int .i64 e] (0, 0) _ rfl ((Blk.new w _ _).alloc _) Tryd.underlying25 rfl (by kernel_rfl)) rfl ?_
  exact ⟨rfl, ((Below.refl _ _).alloc (Nat.le_refl _) _).alloc (by simp) _⟩
set_option maxHeartbeats 2000000 in
set_option maxRecDepth 100000 in
theorem readD_panicking (g : Nat) (w : World) (a e u0 u1 : Int) (older : List PanicEntry) (hb : Blk w g 25 #[.int .i64 u0, .int .i64 u1]) :
    CallsD Tryd.prog 31 #[.pointer (some ⟨g, 0, none⟩)] (.panicking ({ v := .iface 25 (flt a e), recovered := false } :: older)) w fun x u' w' => x = .returned (.tuple #[]) ∧ u' = .panicking ({ v := .iface 25 (flt a e), recovered := true } :: older) ∧ w.grownBy w' (some g) ∧ Blk w' g 25 #[.int .i64 a, .int .i64 e] := by
  refine callsD_of_wpS Tryd.func31 rfl fun c₀ cs hu => ?_
  apply wpS_region
  simp [wpOpsS, go_sem, recoverD, hu, Tryd.ntmps31]
  refine (faultOf_fault w a e).mono ?_
  rintro x w1 ⟨rfl, hb1⟩
  have hk := Blk.below hb hb1 (Blk.lt hb)
  have c0 : w1.cell? ⟨g, 0, none⟩ = some (.int .i64 u0) := hk.cell 0
  have c1 : w1.cell? ⟨g, 1, none⟩ = some (.int .i64 u1) := hk.cell 1
  have f0 := Blk.frozen hk 0
  have f1 := Blk.frozen hk 1
  simp [go_sem, c0, c1, f0, f1, bodyPostS, results, Tryd.results31]
  exact ⟨gb_set (gb_set (gb_below (World.grownBy.refl w (some g)) hb1) 0 _) 1 _, Blk.set_ (Blk.set_ hk 0 _) 1 _⟩
set_option maxHeartbeats 2000000 in
set_option maxRecDepth 100000 in
theorem readD_idle (g : Nat) (w : World) (u0 u1 : Int) (hb : Blk w g 25 #[.int .i64 u0, .int .i64 u1]) :
    CallsD Tryd.prog 31 #[.pointer (some ⟨g, 0, none⟩)] .returning w fun x u' w' => x = .returned (.tuple #[]) ∧ u' = .returning ∧ w.grownBy w' (some g) ∧ Blk w' g 25 #[.int .i64 0, .int .i64 0] := by
  refine callsD_of_wpS Tryd.func31 rfl fun c₀ cs hu => ?_
  apply wpS_region
  simp [wpOpsS, go_sem, recoverD, hu, Tryd.ntmps31]
  refine (faultOf_nil w).mono ?_
  rintro x w1 ⟨rfl, hb1⟩
  have hk := Blk.below hb hb1 (Blk.lt hb)
  have c0 : w1.cell? ⟨g, 0, none⟩ = some (.int .i64 u0) := hk.cell 0
  have c1 : w1.cell? ⟨g, 1, none⟩ = some (.int .i64 u1) := hk.cell 1
  have f0 := Blk.frozen hk 0
  have f1 := Blk.frozen hk 1
  simp [go_sem, c0, c1, f0, f1, bodyPostS, results, Tryd.results31]
  exact ⟨.returning, by rw [← hu], rfl, gb_set (gb_set (gb_below (World.grownBy.refl w (some g)) hb1) 0 _) 1 _, Blk.set_ (Blk.set_ hk 0 _) 1 _⟩
end Go.Proofs.YtkkolefhfmlhfabDoor

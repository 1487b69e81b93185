/- The contracts of the heap's own Push and Pop. -/
import Derived.Test.YtfbnhkndlohalaaHeapU
import Derived.Test.YtfbnhkndlohalaaClone
import Derived.BigRegion
import Derived.Deep.RegionLaw
namespace Go.Proofs.Ytfbnhkndlohalaa
open Go.RowKit

@[go_sem] theorem assert_int (x : Int) (w : World) : (Instr.typeAssert (.iface 3 (.int .i64 x)) 20 3 false).run Try.prog w = .ok (.int .i64 x) w := by kernel_rfl
theorem reads_one' (w : World) (x : Value) (t : TypeId) : Reads (w.alloc (.cells #[x] t)) (w.heap.size + 1) 1 (some ⟨w.heap.size, 0, none⟩) 1 [x] := reads_one w x t
set_option maxHeartbeats 1000000 in
set_option maxRecDepth 100000 in
theorem NPush_any (w : World) (B b : Nat) (v : Value) (xs : List Int) (x : Int) (h : HpB w B b v xs) (hB : B ≤ w.heap.size) (hn : xs.length ≤ 100000) :
    Calls Try.prog 108 #[.pointer (some ⟨b, 0, none⟩), .iface 3 (.int .i64 x)] w fun e w' => e = .returned (.tuple #[]) ∧ ∃ v' w1, HpB w' B b v' (xs ++ [x]) ∧ w.grownBy w1 v.ownBlock ∧ w' = w1.setCell ⟨b, 0, none⟩ v' ∧ (v'.ownBlock = v.ownBlock ∨ ∃ g, v'.ownBlock = some g ∧ w.heap.size ≤ g) := by
  have c0 := h.box.cell 0
  have f0 := h.box.frozen 0
  simp only [List.getElem?_toArray, List.getElem?_cons_zero] at c0
  obtain ⟨A, c, hv⟩ := own_slice h.row
  subst hv
  obtain ⟨i0, hi0, hz0, hz1, hz2⟩ := info_of2 infoI2
  have HI0 := Lib.hid (And.intro hi0 (And.intro hz0 (And.intro hz1 hz2)))
  have HO := Lib.hid ((own_below h.row (Below.refl _ w).drew).alloc (.cells #[.int .i64 x] 3))
  have HR := Lib.hid (reads_one w.drew (.int .i64 x) 3)
  have ca := (h.box.alloc (.cells #[.int .i64 x] 3)).cell 0
  simp only [List.getElem?_toArray, List.getElem?_cons_zero] at ca
  have HX := Lib.hid ((h.box.drew).alloc (.cells #[.int .i64 x] 3))
  have hno : some b ≠ (Value.slice A xs.length c).ownBlock := fun e => by have := (HO.out.lt _ e.symm).1; have := h.lt; omega
  have HNO := Lib.hid hno
  have hlt := h.lt
  clear h hi0 hz0 hz1 hz2 hno
  go_enter Try.func108, Try.ntmps108
  go_wp2
  go_region_law ((refine step_append_any _ rfl (.tmp 8) (.tmp 11) _ rfl B 3 i0 _ 1 8 Try.underlying93 HI0.out.1 HI0.out.2.1 HI0.out.2.2.1 HI0.out.2.2.2 rfl (by omega) (.slice A xs.length c) xs.length (xs.map (Value.int .i64)) (by simp [Act.eval]) HO.out _ (some ⟨w.heap.size, 0, none⟩) 1 1 [.int .i64 x] (by simp [Act.eval]) HR.out (by simp [Value.oneCell']) (by simp only [maxLen]; omega) (by omega) (by simp; omega) ?_; intro v3 w3 hown3 hg3 hat3; obtain ⟨A3, c3, rfl⟩ := own_slice hown3; have hb4 := HX.out.grown hg3 HNO.out; have co4 := hb4.cell 0; have fo4 := Blk.frozen hb4 0; simp only [List.getElem?_toArray, List.getElem?_cons_zero] at co4))
  all_goals (
    go_wp2
    go_end0
    refine ⟨rfl, .slice A3 (xs.length + 1) c3, w3, ⟨by simpa using Blk.set_ hb4 0 (.slice A3 (xs.length + 1) c3), own_set (by simpa using hown3) hlt _ _, hlt⟩, ?_, rfl, ?_⟩
    · exact grown_trans (w1 := w.drew.alloc (.cells #[.int .i64 x] 3)) (r := (Value.slice A xs.length c).ownBlock) ⟨rfl, rfl, rfl, by simp, fun k hk _ => Below.heap_alloc w _ _ hk⟩ hg3
    · rcases hat3 with h | h
      · exact .inl h
      · exact .inr ⟨_, h, by simp⟩)
set_option maxHeartbeats 2000000 in
set_option maxRecDepth 100000 in
theorem NPop_any (w : World) (B b : Nat) (v : Value) (xs : List Int) (h : HpB w B b v xs) (h0 : 0 < xs.length) (hn : xs.length ≤ 100000) :
    Calls Try.prog 107 #[.pointer (some ⟨b, 0, none⟩)] w fun e w' => e = .returned (.iface 3 (.int .i64 (xs.getD (xs.length - 1) 0))) ∧ ∃ v', HpB w' B b v' (xs.take (xs.length - 1)) ∧ v'.ownBlock = v.ownBlock ∧ w' = w.setCell ⟨b, 0, none⟩ v' := by
  have H := Lib.hid h
  have c0 := h.box.cell 0
  have f0 := h.box.frozen 0
  simp only [List.getElem?_toArray, List.getElem?_cons_zero] at c0
  obtain ⟨g, cap, cur, hv, hB, hg, h1, h2, h3, h4⟩ := own_some h.row h0
  subst hv
  have hx : w.cell? ⟨g, xs.length - 1, none⟩ = some (.int .i64 (xs.getD (xs.length - 1) 0)) := by
    obtain ⟨g', cap', hv', _, _, _, _, hc, _, _⟩ := own_cells h.row h0
    injection hv' with e1 e2 e3
    injection e1 with e1
    injection e1 with e1
    subst e1
    exact hc _ (by omega)
  obtain ⟨m, hm⟩ : ∃ m, xs.length = m + 1 := ⟨xs.length - 1, by omega⟩
  have HM := Lib.hid hm
  have HL := Lib.hid (And.intro h4 (And.intro h3 hg))
  rw [hm] at c0 hx h1 ⊢
  have hmm : m + 1 - 1 = m := rfl
  rw [hmm] at hx ⊢
  have hmc : ¬ cap = 0 := by omega
  have hmn : m ≤ 100000 := by omega
  clear h h0 h3 h4 hg hm
  go_enter Try.func107, Try.ntmps107
  go_wp2
  go_ret
  refine ⟨rfl, .slice (some ⟨g, 0, none⟩) m cap, ⟨?_, ?_, H.out.lt⟩, rfl, rfl⟩
  · simpa using Blk.set_ H.out.box 0 (.slice (some ⟨g, 0, none⟩) m cap)
  · obtain ⟨h4, h3, hg⟩ := HL.out
    have hmt : (xs.take m).length = m := by rw [List.length_take, HM.out]; omega
    rw [hmt]
    refine own_set (own_cut hg hB (by omega) h2 h3 ?_) H.out.lt _ _
    rw [List.map_take, ← h4, List.take_take, HM.out, Nat.min_eq_left (by omega)]
end Go.Proofs.Ytfbnhkndlohalaa

/- Sim: the statements' own example: trestlelaw07.works answers true in whatever world. -/
import Derived.Test.YtfbnhkndlohalaaSimN
namespace Go.Proofs.Ytfbnhkndlohalaa
open Go.RowKit

def exS : Circ := { max := 1, inputs := [], latches := [(2, 3, 0)], outputs := [], bads := [2], constraints := [], justice := [], fairness := [], ands := [], symbols := [], comments := [] }
def exSV (a b : Nat) : CV := ⟨.slice none 0 0, .slice (some ⟨a, 0, none⟩) 1 1, .slice none 0 0, .slice (some ⟨b, 0, none⟩) 1 1, .slice none 0 0, .slice none 0 0, .slice none 0 0, .slice none 0 0, .slice none 0 0, .slice none 0 0⟩
def exT : Tr := ⟨[false], [[], []], -1⟩
theorem rowe_nilS {E : Type} {k : Nat} {enc : E → List Value} {w : World} {A : Option Addr} : RowE k enc w (.slice A 0 0) ([] : List E) := RowE.nil w A 0 (by simp [maxLen])
theorem lists_nilS {w : World} : Lists w (.slice none 0 0) [] := ⟨[], rowe_nilS, rfl, fun i u zs hu _ => by simp at hu⟩
theorem blk_roweS {E : Type} {k : Nat} {enc : E → List Value} {w : World} {g : Nat} {t : TypeId} {zs : List E} (hk : ∀ z, (enc z).length = k) (h : Blk w g t (zs.flatMap enc).toArray) (hm : zs.length ≤ maxLen) : RowE k enc w (.slice (some ⟨g, 0, none⟩) zs.length zs.length) zs :=
  ⟨_, _, rfl, Nat.le_refl _, hm, fun i z hz => ⟨g, 0, rfl, h.lt, fun j u hu => by
    have hj : j < k := by rw [← hk z]; exact (List.getElem?_eq_some_iff.1 hu).1
    rw [Nat.zero_add, h.cell, List.getElem?_toArray, flat_get hk zs i z hz j hj]; exact hu⟩⟩
theorem exS_in {w : World} {a b : Nat} (h1 : Blk w a 54 #[.int .i64 2, .int .i64 3, .int .i64 0]) (h2 : Blk w b 3 #[.int .i64 2]) : exS.In w (exSV a b) :=
  ⟨rowe_nilS, blk_roweS (zs := ([(2, 3, 0)] : List Tri)) lenT h1 (by simp [maxLen]), rowe_nilS, blk_roweS (zs := ([2] : List Int)) lenI h2 (by simp [maxLen]), rowe_nilS, lists_nilS, rowe_nilS, rowe_nilS, rowe_nilS, rowe_nilS⟩
theorem exS_ok : exS.Ok := by
  refine ⟨?_, ?_, ?_, ?_, ?_, ?_, ?_, ?_, ?_, ?_, ?_⟩ <;> simp [exS, I64, I64T]
theorem exS_room : exS.Room := by
  refine ⟨?_, ?_, ?_, ?_, ?_, ?_, ?_, ?_, ?_, ?_, ?_⟩ <;> simp [exS]
theorem exS_check : checkR exS = (0, 0) := by decide +kernel
theorem exS_run : runE exS exT = 0 := by
  rw [runE_yes (by rw [exS_check]) (by decide +kernel)]
theorem exS_moms {O : List Int} (h : IsOrd exS O) : momsG exS O exT.init exT.rows = [⟨[false], true, [], []⟩, ⟨[true], true, [0], []⟩] := by
  have : O = [] := List.eq_nil_of_length_eq_zero h.l
  subst this
  rfl
theorem exT_in {w : World} {a b c d : Nat} (h1 : Blk w a 4 #[.bool false]) (h2 : Blk w b 30 #[.slice (some ⟨c, 0, none⟩) 0 0, .slice (some ⟨d, 0, none⟩) 0 0]) : exT.In w ⟨.slice (some ⟨a, 0, none⟩) 1 1, .slice (some ⟨b, 0, none⟩) 2 2⟩ :=
  ⟨blk_roweS (zs := ([false] : List Bool)) lenO h1 (by simp [maxLen]), ⟨[.slice (some ⟨c, 0, none⟩) 0 0, .slice (some ⟨d, 0, none⟩) 0 0], blk_roweS (zs := ([.slice (some ⟨c, 0, none⟩) 0 0, .slice (some ⟨d, 0, none⟩) 0 0] : List Value)) lenV h2 (by simp [maxLen]), rfl, fun i u zs hu hz => by
    match i, hu, hz with
    | 0, hu, hz => simp [exT] at hu hz; subst hu hz; exact rowe_nilS
    | 1, hu, hz => simp [exT] at hu hz; subst hu hz; exact rowe_nilS
    | n + 2, hu, _ => simp at hu⟩⟩
/-- What the example's run answers. -/
theorem exS_any (w : World) (a b c d e f : Nat) (h1 : Blk w a 54 #[.int .i64 2, .int .i64 3, .int .i64 0]) (h2 : Blk w b 3 #[.int .i64 2]) (h3 : Blk w c 4 #[.bool false]) (h4 : Blk w d 30 #[.slice (some ⟨e, 0, none⟩) 0 0, .slice (some ⟨f, 0, none⟩) 0 0]) :
    Calls Try.prog 6 #[.agg #[.int .i64 1, .slice none 0 0, .slice (some ⟨a, 0, none⟩) 1 1, .slice none 0 0, .slice (some ⟨b, 0, none⟩) 1 1, .slice none 0 0, .slice none 0 0, .slice none 0 0, .slice none 0 0, .slice none 0 0, .slice none 0 0], .agg #[.slice (some ⟨c, 0, none⟩) 1 1, .slice (some ⟨d, 0, none⟩) 2 2, .int .i64 (-1)]] w
      fun ex w' => Below w.heap.size w w' ∧ ∃ gm gs sc bA bc b2 k2 f1 f2, ex = .returned (.tuple #[.slice (some ⟨gm, 0, none⟩) 2 2, .int .i64 0]) ∧ gm < w'.heap.size ∧ gs < w'.heap.size ∧ w'.cell? ⟨gm, 1, none⟩ = some (.bool true) ∧ w'.cell? ⟨gm, 2, none⟩ = some (.slice bA 0 bc) ∧ w'.cell? ⟨gm, 3, none⟩ = some f1 ∧ w'.cell? ⟨gm, 4, none⟩ = some (.slice (some ⟨gs, 0, none⟩) 1 sc) ∧ w'.cell? ⟨gm, 6, none⟩ = some (.slice b2 1 k2) ∧ w'.cell? ⟨gm, 7, none⟩ = some f2 ∧ w'.cell? ⟨gs, 0, none⟩ = some (.bool true) := by
  have hin := exS_in h1 h2
  obtain ⟨O, hO⟩ := ord_ex hin exS_ok
  have hrun := Run_any w _ exS _ exT O hin exS_ok exS_room (exT_in h3 h4) hO
  rw [exS_run] at hrun
  refine hrun.mono ?_
  rintro ex w' ⟨hb, v, rfl, _, hyes⟩
  obtain ⟨gm, xs, rfl, _, hmb, hms⟩ := hyes rfl
  rw [exS_moms (hO (by rw [exS_check]))] at hms
  have hl := hms.len
  match xs, hl with
  | [x, y], _ =>
    have hx := hms.at_ 0 x _ rfl rfl
    have hy := hms.at_ 1 y _ rfl rfl
    obtain ⟨p0, p1, p2, p3⟩ := hmb.cells (i := 0) (x := x) rfl
    obtain ⟨q0, q1, q2, q3⟩ := hmb.cells (i := 1) (x := y) rfl
    simp only [Nat.zero_mul, Nat.zero_add, Nat.one_mul] at p0 p1 p2 p3 q0 q1 q2 q3
    obtain ⟨bA, bc, hbe⟩ := own_slice1 hx.b
    obtain ⟨b2, k2, hbe2⟩ := own_slice1 hy.b
    have hs := hy.s
    rcases hs.2 with ⟨_, h0⟩ | ⟨gs, cap, cur, hv, _, hh, _, _, _, ht⟩
    · simp at h0
    · have hys : w'.cell? ⟨gs, 0, none⟩ = some (.bool true) := by
        have := hs.cells (g := gs) (by rw [hv]; rfl) 0 (.bool true) rfl
        rw [add_none] at this
        simpa using this
      rw [hx.h] at p1
      rw [hbe] at p2
      rw [hbe2] at q2
      rw [hv] at q0
      exact ⟨hb, gm, gs, cap, bA, bc, b2, k2, x.f, y.f, rfl, hmb.lt, (Array.getElem?_eq_some_iff.1 hh).1, p1, p2, p3, q0, q2, q3, hys⟩
set_option maxHeartbeats 1000000 in
set_option maxRecDepth 100000 in
theorem worksS_any (w : World) : Calls Try.prog 15 #[] w fun e w' => e = .returned (.bool true) ∧ Below w.heap.size w w' := by
  obtain ⟨W1, hW1⟩ : ∃ W1, W1 = ((((((w.alloc (.cells #[.int .i64 2, .int .i64 3, .int .i64 0] 54)).alloc (.cells #[.int .i64 2] 3)).alloc (.cells #[.int .i64 1, .slice none 0 0, .slice (some ⟨w.heap.size, 0, none⟩) 1 1, .slice none 0 0, .slice (some ⟨w.heap.size + 1, 0, none⟩) 1 1, .slice none 0 0, .slice none 0 0, .slice none 0 0, .slice none 0 0, .slice none 0 0, .slice none 0 0] 29)).alloc (.cells #[.bool false] 4)).alloc (.cells #[] 4)).alloc (.cells #[] 4)).alloc (.cells #[.slice (some ⟨w.heap.size + 1 + 1 + 1 + 1, 0, none⟩) 0 0, .slice (some ⟨w.heap.size + 1 + 1 + 1 + 1 + 1, 0, none⟩) 0 0] 30) := ⟨_, rfl⟩
  have e1 : (w.alloc (.cells #[.int .i64 2, .int .i64 3, .int .i64 0] 54)).heap.size = w.heap.size + 1 := by simp
  have HR : Hid (Calls Try.prog 6 #[.agg #[.int .i64 1, .slice none 0 0, .slice (some ⟨w.heap.size, 0, none⟩) 1 1, .slice none 0 0, .slice (some ⟨w.heap.size + 1, 0, none⟩) 1 1, .slice none 0 0, .slice none 0 0, .slice none 0 0, .slice none 0 0, .slice none 0 0, .slice none 0 0], .agg #[.slice (some ⟨w.heap.size + 1 + 1 + 1, 0, none⟩) 1 1, .slice (some ⟨w.heap.size + 1 + 1 + 1 + 1 + 1 + 1, 0, none⟩) 2 2, .int .i64 (-1)]] W1
      fun ex w' => Below W1.heap.size W1 w' ∧ ∃ gm gs sc bA bc b2 k2 f1 f2, ex = .returned (.tuple #[.slice (some ⟨gm, 0, none⟩) 2 2, .int .i64 0]) ∧ gm < w'.heap.size ∧ gs < w'.heap.size ∧ w'.cell? ⟨gm, 1, none⟩ = some (.bool true) ∧ w'.cell? ⟨gm, 2, none⟩ = some (.slice bA 0 bc) ∧ w'.cell? ⟨gm, 3, none⟩ = some f1 ∧ w'.cell? ⟨gm, 4, none⟩ = some (.slice (some ⟨gs, 0, none⟩) 1 sc) ∧ w'.cell? ⟨gm, 6, none⟩ = some (.slice b2 1 k2) ∧ w'.cell? ⟨gm, 7, none⟩ = some f2 ∧ w'.cell? ⟨gs, 0, none⟩ = some (.bool true)) := Lib.hid (by
    refine exS_any W1 _ _ _ _ (w.heap.size + 1 + 1 + 1 + 1) (w.heap.size + 1 + 1 + 1 + 1 + 1) ?_ ?_ ?_ ?_
    · rw [hW1]; exact ((((((Blk.new w _ _).alloc _).alloc _).alloc _).alloc _).alloc _).alloc _
    · rw [hW1]
      have := Blk.new (w.alloc (.cells #[.int .i64 2, .int .i64 3, .int .i64 0] 54)) 3 #[.int .i64 2]
      rw [e1] at this
      exact ((((this.alloc _).alloc _).alloc _).alloc _).alloc _
    · rw [hW1]
      have := Blk.new (((w.alloc (.cells #[.int .i64 2, .int .i64 3, .int .i64 0] 54)).alloc (.cells #[.int .i64 2] 3)).alloc (.cells #[.int .i64 1, .slice none 0 0, .slice (some ⟨w.heap.size, 0, none⟩) 1 1, .slice none 0 0, .slice (some ⟨w.heap.size + 1, 0, none⟩) 1 1, .slice none 0 0, .slice none 0 0, .slice none 0 0, .slice none 0 0, .slice none 0 0, .slice none 0 0] 29)) 4 #[.bool false]
      rw [show (((w.alloc (.cells #[.int .i64 2, .int .i64 3, .int .i64 0] 54)).alloc (.cells #[.int .i64 2] 3)).alloc (.cells #[.int .i64 1, .slice none 0 0, .slice (some ⟨w.heap.size, 0, none⟩) 1 1, .slice none 0 0, .slice (some ⟨w.heap.size + 1, 0, none⟩) 1 1, .slice none 0 0, .slice none 0 0, .slice none 0 0, .slice none 0 0, .slice none 0 0, .slice none 0 0] 29)).heap.size = w.heap.size + 1 + 1 + 1 by simp] at this
      exact ((this.alloc _).alloc _).alloc _
    · have hb := Blk.new ((((((w.alloc (.cells #[.int .i64 2, .int .i64 3, .int .i64 0] 54)).alloc (.cells #[.int .i64 2] 3)).alloc (.cells #[.int .i64 1, .slice none 0 0, .slice (some ⟨w.heap.size, 0, none⟩) 1 1, .slice none 0 0, .slice (some ⟨w.heap.size + 1, 0, none⟩) 1 1, .slice none 0 0, .slice none 0 0, .slice none 0 0, .slice none 0 0, .slice none 0 0, .slice none 0 0] 29)).alloc (.cells #[.bool false] 4)).alloc (.cells #[] 4)).alloc (.cells #[] 4)) 30 #[.slice (some ⟨w.heap.size + 1 + 1 + 1 + 1, 0, none⟩) 0 0, .slice (some ⟨w.heap.size + 1 + 1 + 1 + 1 + 1, 0, none⟩) 0 0]
      rw [← hW1] at hb
      have hs : ((((((w.alloc (.cells #[.int .i64 2, .int .i64 3, .int .i64 0] 54)).alloc (.cells #[.int .i64 2] 3)).alloc (.cells #[.int .i64 1, .slice none 0 0, .slice (some ⟨w.heap.size, 0, none⟩) 1 1, .slice none 0 0, .slice (some ⟨w.heap.size + 1, 0, none⟩) 1 1, .slice none 0 0, .slice none 0 0, .slice none 0 0, .slice none 0 0, .slice none 0 0, .slice none 0 0] 29)).alloc (.cells #[.bool false] 4)).alloc (.cells #[] 4)).alloc (.cells #[] 4)).heap.size = w.heap.size + 1 + 1 + 1 + 1 + 1 + 1 := by simp
      rw [hs] at hb
      exact hb)
  have HB0 : Hid (Below w.heap.size w W1) := Lib.hid (by
    rw [hW1]
    exact (((((((Below.refl w.heap.size w).alloc (Nat.le_refl _) _).alloc (by simp) _).alloc (by simp; omega) _).alloc (by simp; omega) _).alloc (by simp; omega) _).alloc (by simp; omega) _).alloc (by simp; omega) _)
  rw [hW1] at HR
  have HW := Lib.hid hW1
  clear hW1 e1
  go_enter Try.func15, Try.ntmps15
  go_wp2_with (go_at_call 6; refine HR.out.mono ?_; rintro e w2 ⟨hb2, gm, gs, sc, bA, bc, b2, k2, f1, f2, rfl, g1, g2, q1, q2, q3, q4, q6, q7, q8⟩; rw [← HW.out] at hb2; have HB2 := Lib.hid hb2; clear hb2)
  go_ret
  exact ⟨rfl, bt HB0.out (Nat.le_refl _) HB2.out⟩
end Go.Proofs.Ytfbnhkndlohalaa

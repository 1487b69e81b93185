/- Tern: the statements' own example: trestlelaw08.works answers true in whatever world that has the two tables. -/
import Derived.Test.YtbeaicmjohlboaaGreatDoorTrnN
namespace Go.Proofs.YtbeaicmjohlboaaGreatDoor
open Go.RowKit

def ex8 : Circ := { max := 3, inputs := [], latches := [(2, 3, 0), (4, 4, 0)], outputs := [], bads := [], constraints := [], justice := [], fairness := [], ands := [(6, 3, 5)], symbols := [], comments := [] }
def ex8V (a b : Nat) : CV := ⟨.slice none 0 0, .slice (some ⟨a, 0, none⟩) 2 2, .slice none 0 0, .slice none 0 0, .slice none 0 0, .slice none 0 0, .slice none 0 0, .slice (some ⟨b, 0, none⟩) 1 1, .slice none 0 0, .slice none 0 0⟩
theorem rowe_nil8 {E : Type} {k : Nat} {enc : E → List Value} {w : World} {A : Option Addr} : RowE k enc w (.slice A 0 0) ([] : List E) := RowE.nil w A 0 (by simp [maxLen])
theorem lists_nil8 {w : World} : Lists w (.slice none 0 0) [] := ⟨[], rowe_nil8, rfl, fun i u zs hu _ => by simp at hu⟩
theorem blk_rowe8 {E : Type} {k : Nat} {enc : E → List Value} {w : World} {g : Nat} {t : TypeId} {zs : List E} (hk : ∀ z, (enc z).length = k) (h : Blk w g t (zs.flatMap enc).toArray) (hm : zs.length ≤ maxLen) : RowE k enc w (.slice (some ⟨g, 0, none⟩) zs.length zs.length) zs :=
  ⟨_, _, rfl, Nat.le_refl _, hm, fun i z hz => ⟨g, 0, rfl, h.lt, fun j u hu => by
    have hj : j < k := by rw [← hk z]; exact (List.getElem?_eq_some_iff.1 hu).1
    rw [Nat.zero_add, h.cell, List.getElem?_toArray, flat_get hk zs i z hz j hj]; exact hu⟩⟩
theorem ex8_in {w : World} {a b : Nat} (h1 : Blk w a 43 #[.int .i64 2, .int .i64 3, .int .i64 0, .int .i64 4, .int .i64 4, .int .i64 0]) (h2 : Blk w b 45 #[.int .i64 6, .int .i64 3, .int .i64 5]) : ex8.In w (ex8V a b) :=
  ⟨rowe_nil8, blk_rowe8 (zs := ([(2, 3, 0), (4, 4, 0)] : List Tri)) lenT h1 (by simp [maxLen]), rowe_nil8, rowe_nil8, rowe_nil8, lists_nil8, rowe_nil8, blk_rowe8 (zs := ([(6, 3, 5)] : List Tri)) lenT h2 (by simp [maxLen]), rowe_nil8, rowe_nil8⟩
theorem ex8_ok : ex8.Ok := by
  refine ⟨?_, ?_, ?_, ?_, ?_, ?_, ?_, ?_, ?_, ?_, ?_⟩ <;> simp [ex8, I64, I64T]
theorem ex8_check : (checkR ex8).2 = 0 := by decide +kernel
theorem ex8_ord {O : List Int} (h : IsOrd ex8 O) : O = [0] := List.perm_singleton.1 (ord_perm h)
theorem ex8_settle : settleR ex8 [0] = ([2, 0], 1) := by decide +kernel
theorem ex8_lift : liftE ex8 [0] [1, 1] [] [7] = 0 ∧ lift3 ex8 [0] [] [7] [1, 1] = [2, 1] := by decide +kernel
theorem nums8_row {w : World} {g : Nat} {T : List Int} (h : Nums w g T) (hm : T.length ≤ maxLen) : RowE 1 encI w (.slice (some ⟨g, 0, none⟩) T.length T.length) T := nums_row h hm
/-- What Settle answers of the example. -/
theorem ex8_settle_any (w : World) (a b : Nat) (ht : TabC w) (h1 : Blk w a 43 #[.int .i64 2, .int .i64 3, .int .i64 0, .int .i64 4, .int .i64 4, .int .i64 0]) (h2 : Blk w b 45 #[.int .i64 6, .int .i64 3, .int .i64 5]) :
    Calls Tryz.prog 5 #[.agg #[.int .i64 3, .slice none 0 0, .slice (some ⟨a, 0, none⟩) 2 2, .slice none 0 0, .slice none 0 0, .slice none 0 0, .slice none 0 0, .slice none 0 0, .slice (some ⟨b, 0, none⟩) 1 1, .slice none 0 0, .slice none 0 0]] w
      fun e w' => Below w.heap.size w w' ∧ ∃ g, e = .returned (.tuple #[.slice (some ⟨g, 0, none⟩) 2 2, .int .i64 1, .int .i64 0]) ∧ Nums w' g [2, 0] := by
  have hin := ex8_in h1 h2
  obtain ⟨O, hO⟩ := ord_ex hin ex8_ok
  have := ex8_ord (hO ex8_check)
  subst this
  refine (tSettle_any w _ ex8 [0] hin ex8_ok ht hO).mono ?_
  rintro e w' ⟨hb, v, n, rfl, _, hyes⟩
  obtain ⟨hn, g, rfl, _, hg⟩ := hyes ex8_check
  rw [ex8_settle] at hn hg
  subst hn
  rw [ex8_check]
  exact ⟨hb, g, rfl, hg⟩
/-- What Lift answers of the example. -/
theorem ex8_lift_any (w : World) (a b c d : Nat) (ht : TabC w) (h1 : Blk w a 43 #[.int .i64 2, .int .i64 3, .int .i64 0, .int .i64 4, .int .i64 4, .int .i64 0]) (h2 : Blk w b 45 #[.int .i64 6, .int .i64 3, .int .i64 5])
    (h3 : Nums w c [1, 1]) (h4 : Nums w d [7]) :
    Calls Tryz.prog 27 #[.agg #[.int .i64 3, .slice none 0 0, .slice (some ⟨a, 0, none⟩) 2 2, .slice none 0 0, .slice none 0 0, .slice none 0 0, .slice none 0 0, .slice none 0 0, .slice (some ⟨b, 0, none⟩) 1 1, .slice none 0 0, .slice none 0 0], .slice (some ⟨c, 0, none⟩) 2 2, .slice none 0 0, .slice (some ⟨d, 0, none⟩) 1 1] w
      fun e w' => Below w.heap.size w w' ∧ ∃ g, e = .returned (.tuple #[.slice (some ⟨g, 0, none⟩) 2 2, .int .i64 0]) ∧ Nums w' g [2, 1] := by
  have hin := ex8_in h1 h2
  obtain ⟨O, hO⟩ := ord_ex hin ex8_ok
  have := ex8_ord (hO ex8_check)
  subst this
  refine (tLift_any w _ ex8 _ _ _ [1, 1] [] [7] [0] hin ex8_ok ht (nums8_row h3 (by simp [maxLen])) rowe_nil8 (nums8_row h4 (by simp [maxLen])) (by simp) hO).mono ?_
  rintro e w' ⟨hb, v, rfl, _, hyes⟩
  obtain ⟨g, rfl, _, hg⟩ := hyes ex8_lift.1
  rw [ex8_lift.2] at hg
  rw [ex8_lift.1]
  exact ⟨hb, g, rfl, hg⟩
set_option maxHeartbeats 2000000 in
set_option maxRecDepth 100000 in
theorem worksT_any (w : World) (ht : TabC w) : Calls Tryz.prog 12 #[] w fun e w' => e = .returned (.bool true) ∧ Below w.heap.size w w' := by
  obtain ⟨W1, hW1⟩ : ∃ W1, W1 = (((w.alloc (.cells #[.int .i64 2, .int .i64 3, .int .i64 0, .int .i64 4, .int .i64 4, .int .i64 0] 43)).alloc (.cells #[.int .i64 6, .int .i64 3, .int .i64 5] 45)).alloc (.cells #[.int .i64 3, .slice none 0 0, .slice (some ⟨w.heap.size, 0, none⟩) 2 2, .slice none 0 0, .slice none 0 0, .slice none 0 0, .slice none 0 0, .slice none 0 0, .slice (some ⟨w.heap.size + 1, 0, none⟩) 1 1, .slice none 0 0, .slice none 0 0] 29)) := ⟨_, rfl⟩
  have e1 : (w.alloc (.cells #[.int .i64 2, .int .i64 3, .int .i64 0, .int .i64 4, .int .i64 4, .int .i64 0] 43)).heap.size = w.heap.size + 1 := by simp
  have hb0 : Below w.heap.size w W1 := by
    rw [hW1]
    exact (((Below.refl w.heap.size w).alloc (Nat.le_refl _) _).alloc (by simp) _).alloc (by simp; omega) _
  have hl : Blk W1 w.heap.size 43 #[.int .i64 2, .int .i64 3, .int .i64 0, .int .i64 4, .int .i64 4, .int .i64 0] := by
    rw [hW1]; exact ((Blk.new w _ _).alloc _).alloc _
  have ha : Blk W1 (w.heap.size + 1) 45 #[.int .i64 6, .int .i64 3, .int .i64 5] := by
    rw [hW1]
    have := Blk.new (w.alloc (.cells #[.int .i64 2, .int .i64 3, .int .i64 0, .int .i64 4, .int .i64 4, .int .i64 0] 43)) 45 #[.int .i64 6, .int .i64 3, .int .i64 5]
    rw [e1] at this
    exact this.alloc _
  have hc : Blk W1 (w.heap.size + 1 + 1) 29 #[.int .i64 3, .slice none 0 0, .slice (some ⟨w.heap.size, 0, none⟩) 2 2, .slice none 0 0, .slice none 0 0, .slice none 0 0, .slice none 0 0, .slice none 0 0, .slice (some ⟨w.heap.size + 1, 0, none⟩) 1 1, .slice none 0 0, .slice none 0 0] := by
    have := Blk.new ((w.alloc (.cells #[.int .i64 2, .int .i64 3, .int .i64 0, .int .i64 4, .int .i64 4, .int .i64 0] 43)).alloc (.cells #[.int .i64 6, .int .i64 3, .int .i64 5] 45)) 29 #[.int .i64 3, .slice none 0 0, .slice (some ⟨w.heap.size, 0, none⟩) 2 2, .slice none 0 0, .slice none 0 0, .slice none 0 0, .slice none 0 0, .slice none 0 0, .slice (some ⟨w.heap.size + 1, 0, none⟩) 1 1, .slice none 0 0, .slice none 0 0]
    rw [show ((w.alloc (.cells #[.int .i64 2, .int .i64 3, .int .i64 0, .int .i64 4, .int .i64 4, .int .i64 0] 43)).alloc (.cells #[.int .i64 6, .int .i64 3, .int .i64 5] 45)).heap.size = w.heap.size + 1 + 1 by simp] at this
    rw [hW1]; exact this
  have HSET := Lib.hid (ex8_settle_any W1 _ _ (ht.below hb0) hl ha)
  have HLIFT := Lib.hid (fun (wx : World) (c d : Nat) (hb : Below W1.heap.size W1 wx) (h3 : Nums wx c [1, 1]) (h4 : Nums wx d [7]) => ex8_lift_any wx _ _ c d ((ht.below hb0).below hb) (hl.below hb hl.lt) (ha.below hb ha.lt) h3 h4)
  have HBX := Lib.hid (fun (wx : World) (hb : Below W1.heap.size W1 wx) => rbox_of (hc.below hb hc.lt))
  have HB0 := Lib.hid hb0
  rw [hW1] at HSET
  have HW := Lib.hid hW1
  clear hW1 e1 hb0 hl ha hc ht
  go_enter Tryz.func12, Tryz.ntmps12
  go_upto_region 3 with (go_at_call 5; refine HSET.out.mono ?_; rintro e w2 ⟨hb2, g1, rfl, hn1⟩; rw [← HW.out] at hb2; have HB2 := Lib.hid hb2; have HN1 := Lib.hid hn1; clear hb2 hn1)
  obtain ⟨c0, c1, c2, c3, c4, c5, c6, c7, c8, c9, c10⟩ := HBX.out _ HB2.out
  have HBA : Hid (Below w2.heap.size w2 ((w2.alloc (.cells #[.int .i64 1, .int .i64 1] 3)).alloc (.cells #[.int .i64 7] 3))) := Lib.hid (((Below.refl w2.heap.size w2).alloc (Nat.le_refl _) _).alloc (by simp) _)
  have HL3 : Hid (Nums ((w2.alloc (.cells #[.int .i64 1, .int .i64 1] 3)).alloc (.cells #[.int .i64 7] 3)) w2.heap.size [1, 1]) := Lib.hid ((Blk.new w2 _ _).alloc _)
  have HL4 : Hid (Nums ((w2.alloc (.cells #[.int .i64 1, .int .i64 1] 3)).alloc (.cells #[.int .i64 7] 3)) (w2.heap.size + 1) [7]) := Lib.hid (by
    have := Blk.new (w2.alloc (.cells #[.int .i64 1, .int .i64 1] 3)) 3 #[.int .i64 7]
    rw [show (w2.alloc (.cells #[.int .i64 1, .int .i64 1] 3)).heap.size = w2.heap.size + 1 by simp] at this
    exact this)
  go_upto_region 4 with (go_at_call 27; refine (HLIFT.out _ _ _ (bt HB2.out (Nat.le_refl _) HBA.out) HL3.out HL4.out).mono ?_; rintro e w3 ⟨hb3, g2, rfl, hn2⟩; have HB3 := Lib.hid (bt HBA.out (Nat.le_refl _) hb3); have HN2 := Lib.hid hn2; clear hb3 hn2)
  have q0 : w3.cell? ⟨g1, 0, none⟩ = some (.int .i64 2) := Nums.cell (Blk.below HN1.out HB3.out (Blk.lt HN1.out)) (i := 0) rfl
  have q1 : w3.cell? ⟨g1, 1, none⟩ = some (.int .i64 0) := Nums.cell (Blk.below HN1.out HB3.out (Blk.lt HN1.out)) (i := 1) rfl
  have q2 : w3.cell? ⟨g2, 0, none⟩ = some (.int .i64 2) := Nums.cell HN2.out (i := 0) rfl
  have q3 : w3.cell? ⟨g2, 1, none⟩ = some (.int .i64 1) := Nums.cell HN2.out (i := 1) rfl
  clear c0 c1 c2 c3 c4 c5 c6 c7 c8 c9 c10
  go_wp2
  go_ret
  exact ⟨rfl, bt HB0.out (Nat.le_refl _) (bt HB2.out (Nat.le_refl _) HB3.out)⟩
end Go.Proofs.YtbeaicmjohlboaaGreatDoor

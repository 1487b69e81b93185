/- The contract of checkSizes: the greatest variable, and how many members there are. -/
import Derived.Test.YtdodhbfplglbkaaCirc
import Derived.Laws.Tables
namespace Go.Proofs.Ytdodhbfplglbkaa
open Go.RowKit

/-- All members of the justice properties together, as they are added up. -/
def sumW (zss : List (List Int)) : Int := zss.foldl (fun s zs => wrap64 (s + (zs.length : Int))) 0
theorem sumW_snoc {zss : List (List Int)} {k : Nat} {zs : List Int} (h : zss[k]? = some zs) : sumW (zss.take (k + 1)) = wrap64 (sumW (zss.take k) + (zs.length : Int)) := by
  rw [List.take_add_one, h]; simp [sumW, List.foldl_append]
/-- The numbers that are looked at. -/
def sizesL (C : Circ) : List Int := [(C.inputs.length : Int), C.latches.length, C.outputs.length, C.bads.length, C.constraints.length, C.justice.length, sumW C.justice, C.fairness.length, C.ands.length, C.symbols.length, C.comments.length]
def sizesE (C : Circ) : Int := if C.max < 0 ∨ 16384 < C.max then 1 else if ∃ x ∈ sizesL C, 16384 < x then 2 else 0
theorem sizesE_range {C : Circ} (h : C.max < 0 ∨ 16384 < C.max) : sizesE C = 1 := if_pos h
theorem sizesE_long {C : Circ} (h : ¬ (C.max < 0 ∨ 16384 < C.max)) {x : Int} (hx : x ∈ sizesL C) (hl : 16384 < x) : sizesE C = 2 := by unfold sizesE; rw [if_neg h, if_pos ⟨x, hx, hl⟩]
theorem sizesE_ok {C : Circ} (h : ¬ (C.max < 0 ∨ 16384 < C.max)) (hx : ∀ x ∈ sizesL C, x ≤ 16384) : sizesE C = 0 := by
  unfold sizesE; rw [if_neg h, if_neg]
  rintro ⟨x, h1, h2⟩
  have := hx x h1
  omega

theorem build_eleven (a b c d e f g h i j k : Int) (w : World) : (Instr.build 148 #[(0, .int .i64 a), (1, .int .i64 b), (2, .int .i64 c), (3, .int .i64 d), (4, .int .i64 e), (5, .int .i64 f), (6, .int .i64 g), (7, .int .i64 h), (8, .int .i64 i), (9, .int .i64 j), (10, .int .i64 k)]).run Try.prog w
    = .ok (.agg #[.int .i64 a, .int .i64 b, .int .i64 c, .int .i64 d, .int .i64 e, .int .i64 f, .int .i64 g, .int .i64 h, .int .i64 i, .int .i64 j, .int .i64 k]) w := run_build w _ _ _ (by kernel_rfl)
theorem index_eleven (a b c d e f g h i j k : Int) (n : Nat) (x : Int) (hx : [a, b, c, d, e, f, g, h, i, j, k][n]? = some x) (w : World) : (Instr.index 148 (.agg #[.int .i64 a, .int .i64 b, .int .i64 c, .int .i64 d, .int .i64 e, .int .i64 f, .int .i64 g, .int .i64 h, .int .i64 i, .int .i64 j, .int .i64 k]) (.int .i64 (n : Int))).run Try.prog w = .ok (.int .i64 x) w := by
  have hn : n < 11 := by have := (List.getElem?_eq_some_iff.1 hx).1; simpa using this
  have : n = 0 ∨ n = 1 ∨ n = 2 ∨ n = 3 ∨ n = 4 ∨ n = 5 ∨ n = 6 ∨ n = 7 ∨ n = 8 ∨ n = 9 ∨ n = 10 := by omega
  rcases this with rfl | rfl | rfl | rfl | rfl | rfl | rfl | rfl | rfl | rfl | rfl <;> (simp at hx; subst hx; show Sem.run Try.prog (Instr.index _ _ _) w = Result.ok _ w; kernel_rfl)

theorem all_le_succ {L : List Int} {k : Nat} {x : Int} (h : L[k]? = some x) (hx : x ≤ 16384) (ha : ∀ y ∈ L.take k, y ≤ 16384) : ∀ y ∈ L.take (k + 1), y ≤ 16384 := by
  intro y hy
  rw [List.take_add_one, h] at hy
  rcases List.mem_append.1 hy with hy | hy
  · exact ha y hy
  · simp at hy; omega
/-- Where a circuit's list of lists lies. -/
theorem Lists.at_ {w : World} {v : Value} {zss : List (List Int)} (h : Lists w v zss) : ∃ A c, v = .slice A zss.length c ∧ zss.length ≤ maxLen ∧ ∀ (i : Nat) (zs : List Int), zss[i]? = some zs → ∃ b off u, A = some ⟨b, off, none⟩ ∧ b < w.heap.size ∧ w.cell? ⟨b, off + i, none⟩ = some u ∧ RowE 1 encI w u zs := by
  obtain ⟨vs, h1, h2, h3⟩ := h
  have hl := h1.len
  obtain ⟨A, c, rfl, _, _, h6⟩ := h1
  refine ⟨A, c, by rw [h2], by rw [← h2]; exact hl, fun i zs hz => ?_⟩
  have hi : i < vs.length := by rw [h2]; exact (List.getElem?_eq_some_iff.1 hz).1
  obtain ⟨b, off, e, hb, hc⟩ := h6 i _ (List.getElem?_eq_getElem hi)
  have := hc 0 _ rfl
  simp only [Nat.add_zero, Nat.mul_one] at this
  exact ⟨b, off, _, e, hb, this, h3 i _ zs (List.getElem?_eq_getElem hi) hz⟩

set_option maxHeartbeats 2000000 in
set_option maxRecDepth 100000 in
theorem checkSizes_any (w : World) (V : CV) (C : Circ) (h : C.In w V) :
    Calls Try.prog 84 #[V.val C.max] w fun e w' => e = .returned (.int .i64 (sizesE C)) ∧ Below w.heap.size w w' := by
  have HB := Lib.hid ((Below.refl w.heap.size w).alloc (Nat.le_refl _) (.cells (V.cells C.max) 29))
  by_cases hmx : C.max < 0 ∨ 16384 < C.max
  · rw [sizesE_range hmx]
    rcases hmx with hm | hm
    all_goals
      go_enter Try.func84, Try.ntmps84
      go_wp2
      go_ret
      exact ⟨rfl, HB.out⟩
  · have hm0 : 0 ≤ C.max := by omega
    have hm1 : C.max ≤ 16384 := by omega
    have HX := Lib.hid hmx
    clear hmx
    obtain ⟨Ai, ci, ei, hi1, hi2, _⟩ := h.i
    obtain ⟨Al, cl, el, hl1, hl2, _⟩ := h.l
    obtain ⟨Ao, co, eo, ho1, ho2, _⟩ := h.o
    obtain ⟨Ab, cb, eb, hb1, hb2, _⟩ := h.b
    obtain ⟨Ac, cc, ec, hc1, hc2, _⟩ := h.c
    obtain ⟨Aj, cj, ej, hj1, hj⟩ := h.j.at_
    obtain ⟨Af, cf, ef, hf1, hf2, _⟩ := h.f
    obtain ⟨Aa, ca, ea, ha1, ha2, _⟩ := h.a
    obtain ⟨As, cs, es, hs1, hs2, _⟩ := h.s
    obtain ⟨At, ct, et, ht1, ht2, _⟩ := h.t
    obtain ⟨Vi, Vl, Vo, Vb, Vc, Vj, Vf, Va, Vs, Vt⟩ := V
    simp only at ei el eo eb ec ej ef ea es et
    subst ei el eo eb ec ej ef ea es et
    have HJ := Lib.hid hj
    unfold maxLen at *
    clear hj h
    generalize hr : sizesE C = r
    have HR := Lib.hid hr
    clear hr
    generalize hS : sumW C.justice = S
    have HS := Lib.hid hS
    clear hS
    obtain ⟨L, hL⟩ : ∃ L, sizesL C = L := ⟨_, rfl⟩
    have HL := Lib.hid hL
    have hL' := hL
    unfold sizesL at hL'
    rw [HS.out] at hL'
    have hbld := fun s w => build_eleven (C.inputs.length : Int) C.latches.length C.outputs.length C.bads.length C.constraints.length C.justice.length s C.fairness.length C.ands.length C.symbols.length C.comments.length w
    have hidx := index_eleven (C.inputs.length : Int) C.latches.length C.outputs.length C.bads.length C.constraints.length C.justice.length S C.fairness.length C.ands.length C.symbols.length C.comments.length
    rw [hL'] at hidx
    have hll : L.length = 11 := by rw [← hL']; rfl
    have HIDX := Lib.hid hidx
    have HLL := Lib.hid hll
    clear hL hL' hidx hll
    generalize C.inputs.length = ni at *
    generalize C.latches.length = nl at *
    generalize C.outputs.length = no at *
    generalize C.bads.length = nb at *
    generalize C.constraints.length = nc at *
    generalize hnj : C.justice.length = nj at *
    have HNJ := Lib.hid hnj
    clear hnj
    generalize C.fairness.length = nf at *
    generalize C.ands.length = na at *
    generalize C.symbols.length = ns at *
    generalize C.comments.length = nt at *
    go_enter Try.func84, Try.ntmps84
    go_wp2
    go_loop [3, 19] (fun s i => ∃ k : Nat, k ≤ nj ∧ i = .int .i64 k ∧ s = .int .i64 (sumW (C.justice.take k))) (fun _ i => nj - (intOf i).toNat)
    case atStart => exact ⟨0, Nat.zero_le _, rfl, by simp [sumW]⟩
    case round =>
      obtain ⟨k, hk, rfl, rfl⟩ := hrel
      generalize hs : sumW (C.justice.take k) = s
      have HSK := Lib.hid hs
      clear hs
      by_cases hlt : k < nj
      · have hx := List.getElem?_eq_getElem (l := C.justice) (i := k) (by rw [HNJ.out]; exact hlt)
        generalize C.justice[k]'(by rw [HNJ.out]; exact hlt) = zs at hx
        obtain ⟨b, off, u, rfl, hb, hcell, hrow⟩ := HJ.out k zs hx
        obtain ⟨A2, c2, rfl, _, _, _⟩ := hrow
        have hcell' : (w.alloc (.cells #[.int .i64 C.max, .slice Ai ni ci, .slice Al nl cl, .slice Ao no co, .slice Ab nb cb, .slice Ac nc cc, .slice (some ⟨b, off, none⟩) nj cj, .slice Af nf cf, .slice Aa na ca, .slice As ns cs, .slice At nt ct] 29)).cell? ⟨b, off + k, none⟩ = _ := (World.cell?_alloc_lt w _ ⟨b, off + k, none⟩ hb).trans hcell
        have HX2 := Lib.hid hx
        clear hx
        go_wp2
        go_round
        case rel => exact ⟨k + 1, by omega, by go_num, by rw [sumW_snoc HX2.out, HSK.out]⟩
        case measure => simp [intOf]; omega
      · have : k = nj := by omega
        subst this
        have e : s = S := by rw [← HSK.out, List.take_of_length_le (by rw [HNJ.out]; exact Nat.le_refl _), HS.out]
        subst e
        have hb11 := hbld s
        clear hbld HJ HSK HS
        go_wp2
        go_loop [60] (fun i => ∃ n : Nat, n ≤ 11 ∧ i = .int .i64 n ∧ ∀ y ∈ L.take n, y ≤ 16384) (fun i => 11 - (intOf i).toNat)
        case atStart => exact ⟨0, Nat.zero_le _, rfl, by simp⟩
        case round =>
          obtain ⟨n, hn, rfl, hall⟩ := hrel
          have HA := Lib.hid hall
          clear hall
          by_cases hlt : n < 11
          · have hx := List.getElem?_eq_getElem (l := L) (i := n) (by rw [HLL.out]; exact hlt)
            generalize L[n]'(by rw [HLL.out]; exact hlt) = x at hx
            have hid1 := HIDX.out n x hx
            have HX2 := Lib.hid hx
            clear hx
            by_cases hlx : 16384 < x
            · go_wp2
              go_ret
              exact ⟨ret_int (by rw [← HR.out]; exact (sizesE_long HX.out (by rw [HL.out]; exact List.mem_of_getElem? HX2.out) hlx).symm), HB.out⟩
            · go_wp2
              go_round
              case rel => exact ⟨n + 1, by omega, by go_num, all_le_succ HX2.out (by omega) HA.out⟩
              case measure => simp [intOf]; omega
          · have : n = 11 := by omega
            subst this
            go_wp2
            go_ret
            have hfin : sizesE C = 0 := sizesE_ok HX.out (by
              rw [HL.out]
              have := HA.out
              rwa [List.take_of_length_le (by rw [HLL.out]; exact Nat.le_refl _)] at this)
            exact ⟨ret_int (by rw [← HR.out]; exact hfin.symm), HB.out⟩
end Go.Proofs.Ytdodhbfplglbkaa

/- The document's own Check, first part: sizes, what is defined, what is used: each answers what the program's answers. -/
import Derived.Test.YtdodhbfplglbkaaSizes
import Derived.Test.YtdodhbfplglbkaaUsed
namespace Go.Proofs.Ytdodhbfplglbkaa
open Go.RowKit

set_option maxHeartbeats 4000000 in
set_option maxRecDepth 100000 in
theorem rsize_any (w : World) (V : CV) (C : Circ) (h : C.In w V) :
    Calls Try.prog 94 #[V.val C.max] w fun e w' => e = .returned (.int .i64 (sizesE C)) ∧ Below w.heap.size w w' := by
  have HB := Lib.hid ((Below.refl w.heap.size w).alloc (Nat.le_refl _) (.cells (V.cells C.max) 29))
  by_cases hmx : C.max < 0 ∨ 16384 < C.max
  · rw [sizesE_range hmx]
    rcases hmx with hm | hm
    · clear h
      go_enter Try.func94, Try.ntmps94
      go_wp2
      go_ret
      exact ⟨rfl, HB.out⟩
    · have hm0 : ¬ C.max < 0 := by omega
      clear h
      go_enter Try.func94, Try.ntmps94
      go_wp2
      go_ret
      exact ⟨rfl, HB.out⟩
  · have hm0 : ¬ C.max < 0 := by omega
    have hm1 : ¬ 16384 < C.max := by omega
    have HLONG := Lib.hid (fun (x : Int) (hx : x ∈ sizesL C) (hl : 16384 < x) => sizesE_long hmx hx hl)
    have HOK := Lib.hid (fun (hx : ∀ x ∈ sizesL C, x ≤ 16384) => sizesE_ok hmx hx)
    clear hmx
    obtain ⟨Ai, ci, ei, hi1, hi2, _⟩ := h.i
    obtain ⟨Al, cl, el, hl1, hl2, _⟩ := h.l
    obtain ⟨Ao, co, eo, ho1, ho2, _⟩ := h.o
    obtain ⟨Ab, cb, eb, hb1, hb2, _⟩ := h.b
    obtain ⟨Ac, cc, ec, hc1, hc2, _⟩ := h.c
    obtain ⟨Aj, cj, ej, hj1, hj⟩ := h.j.at_
    obtain ⟨Af, cf, ef, hf1, hf2, _⟩ := h.f
    obtain ⟨Aa, ca, ea, ha1, ha2, _⟩ := h.a
    obtain ⟨As, cs, es, hs1, hs2, _⟩ := h.s
    obtain ⟨At, ct, et, ht1, ht2, _⟩ := h.t
    obtain ⟨Vi, Vl, Vo, Vb, Vc, Vj, Vf, Va, Vs, Vt⟩ := V
    simp only at ei el eo eb ec ej ef ea es et
    subst ei el eo eb ec ej ef ea es et
    have HJ := Lib.hid hj
    unfold maxLen at *
    clear hj h
    generalize hr : sizesE C = r at *
    clear hr
    unfold sizesL at HLONG HOK
    generalize hS : sumW C.justice = S at *
    have HS := Lib.hid hS
    clear hS
    generalize C.inputs.length = ni at *
    generalize C.latches.length = nl at *
    generalize C.outputs.length = no at *
    generalize C.bads.length = nb at *
    generalize C.constraints.length = nc at *
    generalize hnj : C.justice.length = nj at *
    have HNJ := Lib.hid hnj
    clear hnj
    generalize C.fairness.length = nf at *
    generalize C.ands.length = na at *
    generalize C.symbols.length = ns at *
    generalize C.comments.length = nt at *
    go_enter Try.func94, Try.ntmps94
    go_wp2
    go_loop [4, 5] (fun s i => ∃ k : Nat, k ≤ nj ∧ k ≤ 16385 ∧ i = .int .i64 k ∧ s = .int .i64 (sumW (C.justice.take k))) (fun _ i => nj - (intOf i).toNat)
    case atStart => exact ⟨0, Nat.zero_le _, by omega, rfl, by simp [sumW]⟩
    case round =>
      obtain ⟨k, hk, hk2, rfl, rfl⟩ := hrel
      generalize hs : sumW (C.justice.take k) = s
      have HSK := Lib.hid hs
      clear hs
      by_cases hlt : k < nj
      · by_cases hle : (k : Int) ≤ 16384
        · have hx := List.getElem?_eq_getElem (l := C.justice) (i := k) (by rw [HNJ.out]; exact hlt)
          generalize C.justice[k]'(by rw [HNJ.out]; exact hlt) = zs at hx
          obtain ⟨b, off, u, rfl, hb, hcell, hrow⟩ := HJ.out k zs hx
          obtain ⟨A2, c2, rfl, _, _, _⟩ := hrow
          have hcell' : (w.alloc (.cells #[.int .i64 C.max, .slice Ai ni ci, .slice Al nl cl, .slice Ao no co, .slice Ab nb cb, .slice Ac nc cc, .slice (some ⟨b, off, none⟩) nj cj, .slice Af nf cf, .slice Aa na ca, .slice As ns cs, .slice At nt ct] 29)).cell? ⟨b, off + k, none⟩ = _ := (World.cell?_alloc_lt w _ ⟨b, off + k, none⟩ hb).trans hcell
          have HX2 := Lib.hid hx
          clear hx
          go_wp2
          go_round
          case rel => exact ⟨k + 1, by omega, by omega, by go_num, by rw [sumW_snoc HX2.out, HSK.out]⟩
          case measure => simp [intOf]; omega
        · have hjj : (16384 : Int) < (nj : Int) := by omega
          have HR : Hid (r = 2) := Lib.hid (HLONG.out (nj : Int) (by simp) hjj)
          clear HLONG HOK HJ HSK
          by_cases x0 : (16384 : Int) < (ni : Int)
          · skip
            go_wp2
            go_ret
            exact ⟨ret_int HR.out.symm, HB.out⟩
          · skip
            by_cases x1 : (16384 : Int) < (nl : Int)
            · skip
              go_wp2
              go_ret
              exact ⟨ret_int HR.out.symm, HB.out⟩
            · skip
              by_cases x2 : (16384 : Int) < (no : Int)
              · skip
                go_wp2
                go_ret
                exact ⟨ret_int HR.out.symm, HB.out⟩
              · skip
                by_cases x3 : (16384 : Int) < (nb : Int)
                · skip
                  go_wp2
                  go_ret
                  exact ⟨ret_int HR.out.symm, HB.out⟩
                · skip
                  by_cases x4 : (16384 : Int) < (nc : Int)
                  · skip
                    go_wp2
                    go_ret
                    exact ⟨ret_int HR.out.symm, HB.out⟩
                  · skip
                    by_cases x5 : (16384 : Int) < (nj : Int)
                    · skip
                      go_wp2
                      go_ret
                      exact ⟨ret_int HR.out.symm, HB.out⟩
                    · skip
                      exact absurd hjj (by assumption)
      · have : k = nj := by omega
        subst this
        have e : s = S := by rw [← HSK.out, List.take_of_length_le (by rw [HNJ.out]; exact Nat.le_refl _), HS.out]
        subst e
        clear HJ HSK
        by_cases x0 : (16384 : Int) < (ni : Int)
        · have HR : Hid (r = 2) := Lib.hid (HLONG.out (ni : Int) (by simp) x0)
          clear HLONG HOK
          go_wp2
          go_ret
          exact ⟨ret_int HR.out.symm, HB.out⟩
        · skip
          by_cases x1 : (16384 : Int) < (nl : Int)
          · have HR : Hid (r = 2) := Lib.hid (HLONG.out (nl : Int) (by simp) x1)
            clear HLONG HOK
            go_wp2
            go_ret
            exact ⟨ret_int HR.out.symm, HB.out⟩
          · skip
            by_cases x2 : (16384 : Int) < (no : Int)
            · have HR : Hid (r = 2) := Lib.hid (HLONG.out (no : Int) (by simp) x2)
              clear HLONG HOK
              go_wp2
              go_ret
              exact ⟨ret_int HR.out.symm, HB.out⟩
            · skip
              by_cases x3 : (16384 : Int) < (nb : Int)
              · have HR : Hid (r = 2) := Lib.hid (HLONG.out (nb : Int) (by simp) x3)
                clear HLONG HOK
                go_wp2
                go_ret
                exact ⟨ret_int HR.out.symm, HB.out⟩
              · skip
                by_cases x4 : (16384 : Int) < (nc : Int)
                · have HR : Hid (r = 2) := Lib.hid (HLONG.out (nc : Int) (by simp) x4)
                  clear HLONG HOK
                  go_wp2
                  go_ret
                  exact ⟨ret_int HR.out.symm, HB.out⟩
                · skip
                  by_cases x5 : (16384 : Int) < (k : Int)
                  · have HR : Hid (r = 2) := Lib.hid (HLONG.out (k : Int) (by simp) x5)
                    clear HLONG HOK
                    go_wp2
                    go_ret
                    exact ⟨ret_int HR.out.symm, HB.out⟩
                  · skip
                    by_cases x6 : (16384 : Int) < (nf : Int)
                    · have HR : Hid (r = 2) := Lib.hid (HLONG.out (nf : Int) (by simp) x6)
                      clear HLONG HOK
                      go_wp2
                      go_ret
                      exact ⟨ret_int HR.out.symm, HB.out⟩
                    · skip
                      by_cases x7 : (16384 : Int) < (na : Int)
                      · have HR : Hid (r = 2) := Lib.hid (HLONG.out (na : Int) (by simp) x7)
                        clear HLONG HOK
                        go_wp2
                        go_ret
                        exact ⟨ret_int HR.out.symm, HB.out⟩
                      · skip
                        by_cases x8 : (16384 : Int) < (ns : Int)
                        · have HR : Hid (r = 2) := Lib.hid (HLONG.out (ns : Int) (by simp) x8)
                          clear HLONG HOK
                          go_wp2
                          go_ret
                          exact ⟨ret_int HR.out.symm, HB.out⟩
                        · skip
                          by_cases x9 : (16384 : Int) < (nt : Int)
                          · have HR : Hid (r = 2) := Lib.hid (HLONG.out (nt : Int) (by simp) x9)
                            clear HLONG HOK
                            go_wp2
                            go_ret
                            exact ⟨ret_int HR.out.symm, HB.out⟩
                          · skip
                            by_cases x10 : (16384 : Int) < s
                            · have HR : Hid (r = 2) := Lib.hid (HLONG.out s (by simp) x10)
                              clear HLONG HOK
                              go_wp2
                              go_ret
                              exact ⟨ret_int HR.out.symm, HB.out⟩
                            · skip
                              have HR : Hid (r = 0) := Lib.hid (HOK.out (by simp only [List.mem_cons, List.not_mem_nil, or_false]; rintro y (rfl | rfl | rfl | rfl | rfl | rfl | rfl | rfl | rfl | rfl | rfl) <;> omega))
                              clear HLONG HOK
                              go_wp2
                              go_ret
                              exact ⟨ret_int HR.out.symm, HB.out⟩
end Go.Proofs.Ytdodhbfplglbkaa

namespace Go.Proofs.Ytdodhbfplglbkaa
open Go.RowKit

theorem grown_alloc {w w' : World} {r : Option Nat} (h : w.grownBy w' r) (o : Obj) : w.grownBy (w'.alloc o) r := ⟨h.os, h.tape, h.output, Nat.le_trans h.size (by simp), fun k hk hne => (Below.heap_alloc w' o k (Nat.lt_of_lt_of_le hk h.size)).trans (h.block k hk hne)⟩
theorem twice_small {m : Nat} (h : m ≤ 16384) : IntKind.i64.wrap (2 * (m : Int)) = 2 * (m : Int) := by simp [IntKind.wrap, IntKind.bits, IntKind.signed]; omega
set_option maxHeartbeats 400000 in
theorem rone_any (w : World) (V : CV) (m : Nat) (g : Nat) (tb : List Bool) (l : Int) (hl : I64 l) (ht : Tab w g tb) (hm : tb.length = m + 1) (hm2 : m ≤ 16384) :
    Calls Try.prog 132 #[V.val m, .slice (some ⟨g, 0, none⟩) tb.length tb.length, .int .i64 l] w fun e w' => e = .returned (.int .i64 (defE tb l)) ∧ w.grownBy w' (some g) ∧ Tab w' g (defT tb l) := by
  have HG0 := Lib.hid (World.grownBy.refl w (some g))
  have hgl := Blk.lt ht
  have hnew := Blk.new w 29 (V.cells m)
  have hc0 := hnew.cell 0
  obtain ⟨Vi, Vl, Vo, Vb, Vc, Vj, Vf, Va, Vs, Vt⟩ := V
  simp only [CV.cells, List.getElem?_toArray, List.getElem?_cons_zero] at hc0
  have HGA : Hid (w.grownBy (w.alloc (.cells #[.int .i64 m, Vi, Vl, Vo, Vb, Vc, Vj, Vf, Va, Vs, Vt] 29)) (some g)) := Lib.hid (World.grownBy_alloc w _ _)
  have HTA := Lib.hid (Blk.alloc ht (.cells #[.int .i64 m, Vi, Vl, Vo, Vb, Vc, Vj, Vf, Va, Vs, Vt] 29))
  have HTW := Lib.hid (show Tab (w.alloc (.cells #[.int .i64 m, Vi, Vl, Vo, Vb, Vc, Vj, Vf, Va, Vs, Vt] 29)) g tb from HTA.out)
  have hw2 := twice_small hm2
  clear hnew
  by_cases h1 : l < 2
  · have hE := defE_bad (tb := tb) (l := l) (.inl h1)
    have hT := defT_bad (tb := tb) (l := l) (by rw [hE]; decide)
    rw [hE, hT]
    clear ht hE hT
    go_enter Try.func132, Try.ntmps132
    go_wp2
    go_ret
    exact ⟨rfl, HGA.out, HTW.out⟩
  · have h0 : 0 ≤ l := by omega
    have hhalf := hl.half h0
    by_cases h2 : l % 2 = 1
    · have hE := defE_bad (tb := tb) (l := l) (.inr (.inl h2))
      have hT := defT_bad (tb := tb) (l := l) (by rw [hE]; decide)
      rw [hE, hT]
      have hq : (l % 2 == 1) = true := by simpa using h2
      clear ht hE hT h2
      go_enter Try.func132, Try.ntmps132
      go_wp2
      go_ret
      exact ⟨rfl, HGA.out, HTW.out⟩
    · have hq : (l % 2 == 1) = false := by simpa using h2
      by_cases h3 : (tb.length : Int) ≤ l / 2
      · have hE := defE_bad (tb := tb) (l := l) (.inr (.inr h3))
        have hT := defT_bad (tb := tb) (l := l) (by rw [hE]; decide)
        rw [hE, hT]
        have h4 : 2 * (m : Int) < l := by omega
        clear ht hE hT h2 h3
        go_enter Try.func132, Try.ntmps132
        go_wp2
        go_ret
        exact ⟨rfl, HGA.out, HTW.out⟩
      · have hno : ¬ (l < 2 ∨ l % 2 = 1 ∨ (tb.length : Int) ≤ l / 2) := by rintro (h | h | h) <;> contradiction
        have hk : (l / 2).toNat < tb.length := by omega
        have h4 : (0 : Int) ≤ l / 2 := by omega
        have h5 : l / 2 < (tb.length : Int) := by omega
        have h6 : ¬ 2 * (m : Int) < l := by omega
        have hx := List.getElem?_eq_getElem hk
        have hcell := HTW.out.cell hx
        have hfr := Blk.frozen HTW.out (l / 2).toNat
        have hd : tb.getD (l / 2).toNat false = tb[(l / 2).toNat] := by simp [List.getD, hk]
        cases hbx : tb[(l / 2).toNat]
        · rw [hbx] at hcell hd
          have hE := defE_ok hno hd
          have hT := defT_ok hE
          rw [hE, hT]
          have HG2 : Hid (w.grownBy ((w.setCell ⟨g, (l / 2).toNat, none⟩ (.bool true)).alloc (.cells #[.int .i64 m, Vi, Vl, Vo, Vb, Vc, Vj, Vf, Va, Vs, Vt] 29)) (some g)) := Lib.hid (grown_alloc (only_set (World.grownBy.refl w _) _ _) _)
          have HT : Hid (Tab ((w.setCell ⟨g, (l / 2).toNat, none⟩ (.bool true)).alloc (.cells #[.int .i64 m, Vi, Vl, Vo, Vb, Vc, Vj, Vf, Va, Vs, Vt] 29)) g (tb.set (l / 2).toNat true)) := Lib.hid (Blk.alloc (ht.set_ (l / 2).toNat true) _)
          have HN := Lib.hid hno
          clear ht hE hT hx hd h2 hbx hno h3
          go_enter Try.func132, Try.ntmps132
          go_wp2
          go_ret
          exact ⟨rfl, HG2.out, HT.out⟩
        · rw [hbx] at hcell hd
          have hE := defE_twice hno hd
          have hT := defT_bad (tb := tb) (l := l) (by rw [hE]; decide)
          rw [hE, hT]
          have HN := Lib.hid hno
          clear ht hE hT hx hd h2 hbx hno h3
          go_enter Try.func132, Try.ntmps132
          go_wp2
          go_ret
          exact ⟨rfl, HGA.out, HTW.out⟩

theorem twice1_small {m : Nat} (h : m ≤ 16384) : IntKind.i64.wrap (2 * (m : Int) + 1) = 2 * (m : Int) + 1 := by simp [IntKind.wrap, IntKind.bits, IntKind.signed]; omega
set_option maxHeartbeats 400000 in
theorem rused_any (w : World) (V : CV) (m : Nat) (g : Nat) (tb : List Bool) (l : Int) (hl : I64 l) (ht : Tab w g tb) (hm : tb.length = m + 1) (hm2 : m ≤ 16384) :
    Calls Try.prog 133 #[V.val m, .slice (some ⟨g, 0, none⟩) tb.length tb.length, .int .i64 l] w fun e w' => e = .returned (.int .i64 (useE tb l)) ∧ Below w.heap.size w w' := by
  have hgl := Blk.lt ht
  have hnew := Blk.new w 29 (V.cells m)
  have hc0 := hnew.cell 0
  obtain ⟨Vi, Vl, Vo, Vb, Vc, Vj, Vf, Va, Vs, Vt⟩ := V
  simp only [CV.cells, List.getElem?_toArray, List.getElem?_cons_zero] at hc0
  have HB := Lib.hid ((Below.refl w.heap.size w).alloc (Nat.le_refl _) (.cells #[.int .i64 m, Vi, Vl, Vo, Vb, Vc, Vj, Vf, Va, Vs, Vt] 29))
  have HTA := Lib.hid (Blk.alloc ht (.cells #[.int .i64 m, Vi, Vl, Vo, Vb, Vc, Vj, Vf, Va, Vs, Vt] 29))
  have HTW := Lib.hid (show Tab (w.alloc (.cells #[.int .i64 m, Vi, Vl, Vo, Vb, Vc, Vj, Vf, Va, Vs, Vt] 29)) g tb from HTA.out)
  have hw2 := twice_small hm2
  have hw3 := twice1_small hm2
  clear hnew
  by_cases h1 : l < 0
  · rw [useE_bad (tb := tb) (l := l) (.inl h1)]
    clear ht
    go_enter Try.func133, Try.ntmps133
    go_wp2
    go_ret
    exact ⟨rfl, HB.out⟩
  · have h0 : 0 ≤ l := by omega
    have hhalf := hl.half h0
    by_cases h3 : (tb.length : Int) ≤ l / 2
    · rw [useE_bad (tb := tb) (l := l) (.inr h3)]
      have h4 : 2 * (m : Int) + 1 < l := by omega
      clear ht h3
      go_enter Try.func133, Try.ntmps133
      go_wp2
      go_ret
      exact ⟨rfl, HB.out⟩
    · have hno : ¬ (l < 0 ∨ (tb.length : Int) ≤ l / 2) := by rintro (h | h) <;> contradiction
      have hk : (l / 2).toNat < tb.length := by omega
      have h4 : (0 : Int) ≤ l / 2 := by omega
      have h5 : l / 2 < (tb.length : Int) := by omega
      have h6 : ¬ 2 * (m : Int) + 1 < l := by omega
      have hcell := HTW.out.cell (List.getElem?_eq_getElem hk)
      have hd : tb.getD (l / 2).toNat false = tb[(l / 2).toNat] := by simp [List.getD, hk]
      cases hbx : tb[(l / 2).toNat]
      · rw [hbx] at hcell hd
        rw [useE_loose hno hd]
        clear ht hd hbx hno h3
        go_enter Try.func133, Try.ntmps133
        go_wp2
        go_ret
        exact ⟨rfl, HB.out⟩
      · rw [hbx] at hcell hd
        rw [useE_ok hno hd]
        clear ht hd hbx hno h3
        go_enter Try.func133, Try.ntmps133
        go_wp2
        go_ret
        exact ⟨rfl, HB.out⟩
theorem rbox_of {w' : World} {b : Nat} {m : Int} {Vi Vl Vo Vb Vc Vj Vf Va Vs Vt : Value} (h : Blk w' b 29 #[.int .i64 m, Vi, Vl, Vo, Vb, Vc, Vj, Vf, Va, Vs, Vt]) :
    w'.cell? ⟨b, 0, none⟩ = some (.int .i64 m) ∧ w'.cell? ⟨b, 1, none⟩ = some Vi ∧ w'.cell? ⟨b, 2, none⟩ = some Vl ∧ w'.cell? ⟨b, 3, none⟩ = some Vo ∧ w'.cell? ⟨b, 4, none⟩ = some Vb ∧ w'.cell? ⟨b, 5, none⟩ = some Vc ∧ w'.cell? ⟨b, 6, none⟩ = some Vj ∧ w'.cell? ⟨b, 7, none⟩ = some Vf ∧ w'.cell? ⟨b, 8, none⟩ = some Va ∧ w'.cell? ⟨b, 9, none⟩ = some Vs ∧ w'.cell? ⟨b, 10, none⟩ = some Vt :=
  ⟨h.cell 0, h.cell 1, h.cell 2, h.cell 3, h.cell 4, h.cell 5, h.cell 6, h.cell 7, h.cell 8, h.cell 9, h.cell 10⟩


theorem Mid.drew {w0 w : World} {bx g : Nat} {cs : Array Value} {tb : List Bool} (h : Mid w0 w bx g cs tb) : Mid w0 w.drew bx g cs tb := ⟨h.below.drew, h.box.drew, Blk.drew h.tab⟩
theorem Mid.on {w0 w w' : World} {bx g : Nat} {cs : Array Value} {tb : List Bool} (h : Mid w0 w bx g cs tb) (hb : Below w.heap.size w w') : Mid w0 w' bx g cs tb :=
  ⟨h.below.trans (hb.mono h.below.size), h.box.below hb h.box.lt, Blk.below h.tab hb (Blk.lt h.tab)⟩
set_option maxHeartbeats 1000000 in
set_option maxRecDepth 100000 in
theorem rusedAll_any (w : World) (V : CV) (m : Nat) (g : Nat) (tb : List Bool) (v : Value) (zs : List Int) (ht : Tab w g tb) (hm : tb.length = m + 1) (hm2 : m ≤ 16384) (h : RowE 1 encI w v zs) (hok : ∀ z ∈ zs, I64 z) :
    Calls Try.prog 134 #[V.val m, .slice (some ⟨g, 0, none⟩) tb.length tb.length, v] w fun e w' => e = .returned (.tuple #[.int .i64 (firstE (useE tb) zs 0).1, .int .i64 (firstE (useE tb) zs 0).2]) ∧ Below w.heap.size w w' := by
  have hl := h.len
  unfold maxLen at hl
  have HM := Lib.hid (Mid.mk ((Below.refl w.heap.size w).alloc (Nat.le_refl _) (.cells (V.cells m) 29)) (Blk.new w 29 (V.cells m)) (Blk.alloc ht _))
  have HC := Lib.hid (fun (wx : World) (l : Int) (hl : I64 l) (hx : Tab wx g tb) => rused_any wx V m g tb l hl hx hm hm2)
  obtain ⟨A, c, rfl, hc, hmx, hp⟩ := h
  have HP := Lib.hid hp
  have HO := Lib.hid hok
  clear hp hc hmx ht hok hm
  generalize hr : firstE (useE tb) zs 0 = r
  have HR := Lib.hid hr
  clear hr
  generalize hn : zs.length = n at *
  have HN := Lib.hid hn
  clear hn
  generalize hN : tb.length = N at *
  clear hN
  obtain ⟨Vi, Vl, Vo, Vb, Vc, Vj, Vf, Va, Vs, Vt⟩ := V
  go_enter Try.func134, Try.ntmps134
  go_wp2
  go_loopw [8] (fun i wr => ∃ k : Nat, k ≤ n ∧ i = .int .i64 k ∧ firstE (useE tb) zs 0 = firstE (useE tb) (zs.drop k) k ∧ Mid w wr w.heap.size g _ tb) (fun i _ => n - (intOf i).toNat)
  case atStart => exact ⟨0, Nat.zero_le _, rfl, rfl, HM.out⟩
  case round =>
    obtain ⟨k, hk, rfl, hall, hmid⟩ := hrel
    have HA := Lib.hid hall
    have HMM := Lib.hid hmid
    clear hall hmid
    by_cases hlt : k < n
    · have hx := List.getElem?_eq_getElem (l := zs) (i := k) (by rw [HN.out]; exact hlt)
      generalize zs[k]'(by rw [HN.out]; exact hlt) = x at hx
      obtain ⟨b, off, rfl, hb, hcell⟩ := HP.out k x hx
      have h0 := hcell 0 _ rfl
      simp only [Nat.add_zero, Nat.mul_one] at h0
      have HCELL := Lib.hid (fun (wx : World) (hx : Below w.heap.size w wx) => (hx.cell (p := ⟨b, off + k, none⟩) hb).trans h0)
      have HX := Lib.hid hx
      clear hx hcell h0
      have hxo := HO.out x (List.mem_of_getElem? HX.out)
      have hk0 : (0 : Int) ≤ (k : Int) := by omega
      have hk1 : (k : Int) < (n : Int) := by omega
      obtain ⟨u, hu⟩ : ∃ u, useE tb x = u := ⟨_, rfl⟩
      have HU := Lib.hid hu
      clear hu
      by_cases h00 : u = 0
      · subst h00
        go_wp2
        refine wp_region_quiet (C := fun wz => Mid w wz w.heap.size g #[.int .i64 m, Vi, Vl, Vo, Vb, Vc, Vj, Vf, Va, Vs, Vt] tb) (by kernel_rfl) (by kernel_rfl) HMM.out.drew ?_
        simp only
        repeat
          first
            | go_big_quiet_skip
            | (refine wpQuiet_step (fun K hK => ?_)
               rw [if_pos (by rfl)]
               unfold Oper.quiet
               apply Exists.intro
               refine And.intro (fun wx hWx => ?_) (hK _ ?_)
               · obtain ⟨c0, c1, c2, c3, c4, c5, c6, c7, c8, c9, c10⟩ := rbox_of hWx.box
                 have h0 := HCELL.out wx hWx.below
                 first
                   | (go_simp; exact rfl)
                   | (go_simp; go_at_call 133; refine (HC.out wx x hxo hWx.tab).mono ?_; rw [HU.out]; rintro e w' ⟨rfl, hb'⟩; exact ⟨rfl, hWx.on hb'⟩)
               clear hK K
               try simp only [Act.put, List.setIfInBounds_toArray, List.set_cons_zero, List.set_cons_succ])
        refine wpQuiet_nil ?_
        intro w5 hw5
        have HW5 := Lib.hid hw5
        clear hw5
        go_wp2
        go_roundw
        case rel => exact ⟨k + 1, by omega, by go_num, by rw [HA.out, firstE_step HX.out HU.out], HW5.out⟩
        case measure => simp [intOf]; omega
      · have hq : (u == 0) = false := by simpa using h00
        have hq2 : (u != 0) = true := by simpa using h00
        have HU0 := Lib.hid h00
        clear h00
        go_wp2
        refine wp_region_quiet (C := fun wz => Mid w wz w.heap.size g #[.int .i64 m, Vi, Vl, Vo, Vb, Vc, Vj, Vf, Va, Vs, Vt] tb) (by kernel_rfl) (by kernel_rfl) HMM.out.drew ?_
        simp only
        repeat
          first
            | go_big_quiet_skip
            | (refine wpQuiet_step (fun K hK => ?_)
               rw [if_pos (by rfl)]
               unfold Oper.quiet
               apply Exists.intro
               refine And.intro (fun wx hWx => ?_) (hK _ ?_)
               · obtain ⟨c0, c1, c2, c3, c4, c5, c6, c7, c8, c9, c10⟩ := rbox_of hWx.box
                 have h0 := HCELL.out wx hWx.below
                 first
                   | (go_simp; exact rfl)
                   | (go_simp; go_at_call 133; refine (HC.out wx x hxo hWx.tab).mono ?_; rw [HU.out]; rintro e w' ⟨rfl, hb'⟩; exact ⟨rfl, hWx.on hb'⟩)
               clear hK K
               try simp only [Act.put, List.setIfInBounds_toArray, List.set_cons_zero, List.set_cons_succ])
        refine wpQuiet_nil ?_
        intro w5 hw5
        have HW5 := Lib.hid hw5
        clear hw5
        go_wp2
        go_ret2
        have hs := firstE_stop (f := useE tb) HX.out (by rw [HU.out]; exact HU0.out)
        rw [HU.out] at hs
        exact ⟨ret_two (p := ((k : Int), u)) (by rw [← HR.out, HA.out, hs]), HW5.out.below⟩
    · have : k = n := by omega
      subst this
      go_wp2
      go_ret2
      exact ⟨ret_two (p := (0, 0)) (by rw [← HR.out, HA.out, firstE_end (by rw [HN.out]; exact Nat.le_refl _)]), HMM.out.below⟩
end Go.Proofs.Ytdodhbfplglbkaa

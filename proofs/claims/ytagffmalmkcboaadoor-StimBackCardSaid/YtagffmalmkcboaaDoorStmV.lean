/- Stim: from a row's listed variables to what the library's functions read. -/
import Derived.Test.YtagffmalmkcboaaDoorStmK
import Derived.Test.YtagffmalmkcboaaDoorArgS
import Derived.Test.YtagffmalmkcboaaDoorStmC
import Derived.Test.YtagffmalmkcboaaDoorTie
import Derived.Lib.LaidTab
import Derived.ChangeMaps5
import Derived.MapKept
import Derived.LaidMore
import Derived.Stop.Joined
import Derived.Lay
import Derived.Shelf.Vars
namespace Go.Proofs.YtagffmalmkcboaaDoor
open Go.RowKit Go.ChangeShapes Go.WideShapes

section
variable {H : Type} {enc : TypeId × Value → H} {W : World}
def PropOk (z : Int × Int) : Prop := (0 ≤ z.1 ∧ z.1 ≤ 255) ∧ I64 z.2
theorem cell_prop {cs : List Value} {n : Nat} {x : DataW H × List MemPlace} (hl : cs.length = 2) (h : DataW.trod enc Tryd.prog W 0 (fun _ => true) true n 92 cs = some x) : ∃ z, cs = encPp z ∧ PropOk z := by
  match cs, hl with
  | [a, b], _ =>
  obtain ⟨y0, y1, n', _, _, h0, h1⟩ := trod_struct2 Tryd.underlying92 h
  simp [one_int, one_u8] at h0 h1
  obtain ⟨z0, e0, _, w0⟩ := DataW.trod_int Tryd.underlying5 h0
  obtain ⟨z1, e1, w1⟩ := cell_int h1
  simp only [encI, List.cons.injEq, and_true] at e0 e1
  subst e0 e1
  exact ⟨(z0, z1), rfl, by simpa [Lit.wf, IntKind.min, IntKind.max, IntKind.signed, IntKind.bits] using w0, w1⟩
theorem one_props : Tryd.prog.cellsOf 38 = 1 := by kernel_rfl
theorem two_prop : Tryd.prog.cellsOf 92 = 2 := by kernel_rfl
/-- A trace out of three cells. -/
theorem cell_trace {n : Nat} {c0 c1 c2 : Value} {x : DataW H × List MemPlace} (h : DataW.trod enc Tryd.prog W 0 (fun _ => true) true n 42 [c0, c1, c2] = some x) (hlt : ∀ y ∈ x.2, y.block < W.heap.size) : ∃ (U : TV) (t : Tr), c0 = U.i ∧ c1 = U.r ∧ c2 = .int .i64 t.loop ∧ t.In W U := by
  obtain ⟨xs, n, _, hx, hl, hxl, hfi⟩ := DataW.trod_struct Tryd.underlying42 h
  subst hx
  match xs, hxl with
  | [y0, y1, y2], _ =>
  have f0 := hfi 0 _ rfl
  have f1 := hfi 1 _ rfl
  have f2 := hfi 2 _ rfl
  simp [one_int, one_bools, show Tryd.prog.cellsOf 40 = 1 by kernel_rfl] at f0 f1 f2
  have hlt' : ∀ y ∈ [y0, y1, y2], ∀ x ∈ y.2, x.block < W.heap.size := fun y hy x hxy => hlt x (List.mem_flatMap.2 ⟨y, hy, hxy⟩)
  obtain ⟨v0, zi, e0, ri, di⟩ := arg_run (enc' := encO) (Q := fun _ _ => True) Tryd.underlying39 one_bool lenO (by omega) (fun cs n x _ h _ => cell_boolS h) f0 (hlt' y0 (by simp))
  obtain ⟨v1, vs, e1, rj, dj⟩ := arg_run (enc' := encV) (Q := fun u _ => ∃ zs, RowE 1 encO W u zs) Tryd.underlying40 one_bools lenV (by omega) (fun cs n x hl h hx => by
    obtain ⟨v, zs, e, h1, h2⟩ := arg_run (enc' := encO) (Q := fun _ _ => True) Tryd.underlying39 one_bool lenO (by omega) (fun cs n x _ h _ => cell_boolS h) h hx
    exact ⟨v, e, zs, h1⟩) f1 (hlt' y1 (by simp))
  obtain ⟨lp, e2, _⟩ := cell_int f2
  simp only [encI, List.cons.injEq, and_true] at e0 e1 e2
  subst e0 e1 e2
  have hjj : ∀ i, i < vs.length → ∃ js : List Bool, RowE 1 encO W (vs.getD i undef) js := fun i hi => by
    have hu := List.getElem?_eq_getElem hi
    rcases dj with ⟨_, rfl⟩ | ⟨es, sp, _, hl9, hq⟩
    · simp at hi
    · obtain ⟨js, h1⟩ := hq i _ _ hu (List.getElem?_eq_getElem (by rw [hl9]; exact hi))
      exact ⟨js, by simpa [List.getD, hu] using h1⟩
  obtain ⟨J, hJ⟩ := Go.Deep.choose_lt hjj
  refine ⟨⟨c0, c1⟩, ⟨zi, (List.range vs.length).map J, lp⟩, rfl, rfl, rfl, ri, vs, rj, by simp, fun i u q hu hq => ?_⟩
  have hi : i < vs.length := (List.getElem?_eq_some_iff.1 hu).1
  simp [hi] at hq
  subst hq
  have := hJ i hi
  simpa [List.getD, hu] using this
set_option maxRecDepth 100000 in
theorem arg_wit {base : Nat} {v : Value} {d : DataW H} {ps : List MemPlace}
    (hval : Value.okWide Tryd.prog W .any base 44 v) (h : DataW.Trod enc Tryd.prog W 0 (fun _ => true) true 44 v d ps) (hlt : ∀ x ∈ ps, x.block < W.heap.size) :
    ∃ (x : Wit) (vp vi vr : Value), v = .agg #[.int .i64 x.st, vp, vi, vr, .int .i64 x.tr.loop] ∧ WtIn W x vp vi vr ∧ ∀ p ∈ x.ps, (0 ≤ p.1 ∧ p.1 ≤ 255) ∧ I64 p.2 := by
  obtain ⟨cs, rfl, hcs⟩ := okWide_struct Tryd.underlying44 hval
  obtain ⟨fuel, hf⟩ := h
  obtain ⟨xs, n, _, hx, hl, hxl, hfi⟩ := DataW.trod_struct Tryd.underlying44 hf
  simp only [Prod.mk.injEq] at hx
  obtain ⟨rfl, rfl⟩ := hx
  have hcl : cs.size = 5 := by rw [hcs]; kernel_rfl
  obtain ⟨l⟩ := cs
  match l, hcl with
  | [c0, c1, c2, c3, c4], _ =>
  match xs, hxl with
  | [y0, y1, y2], _ =>
  have f0 := hfi 0 _ rfl
  have f1 := hfi 1 _ rfl
  have f2 := hfi 2 _ rfl
  simp [Value.cells, one_int, one_props, show Tryd.prog.cellsOf 42 = 3 by kernel_rfl] at f0 f1 f2
  have hlt' : ∀ y ∈ [y0, y1, y2], ∀ x ∈ y.2, x.block < W.heap.size := fun y hy x hxy => hlt x (List.mem_flatMap.2 ⟨y, hy, hxy⟩)
  obtain ⟨st, e0, _⟩ := cell_int f0
  obtain ⟨vp, qs, e1, rp, dp⟩ := arg_run (enc' := encPp) (Q := fun z _ => PropOk z) Tryd.underlying38 two_prop lenPp (by omega) (fun cs n x hl h _ => cell_prop hl h) f1 (hlt' y1 (by simp))
  obtain ⟨U, t, e2, e3, e4, ht⟩ := cell_trace f2 (hlt' y2 (by simp))
  simp only [encI, List.cons.injEq, and_true] at e0 e1
  subst e0 e1 e2 e3 e4
  refine ⟨⟨st, qs, t⟩, _, _, _, rfl, ⟨rp, ht⟩, fun p hp => ?_⟩
  obtain ⟨i, hi⟩ := List.getElem?_of_mem hp
  have hil := (List.getElem?_eq_some_iff.1 hi).1
  rcases dp with ⟨_, rfl⟩ | ⟨es, sp, _, hl9, hq⟩
  · cases hi
  · exact hq i p _ hi (List.getElem?_eq_getElem (by rw [hl9]; exact hil))
end
end Go.Proofs.YtagffmalmkcboaaDoor

namespace Go.Proofs.YtagffmalmkcboaaDoor
open Go.ChangeShapes Go.WideShapes Go.ChangeAt Go.RowKit

abbrev laid7 : List (String × DataW Unit) := [("math/bits.deBruijn32tab", Rows.laid_math_bits_deBruijn32tab), ("math/bits.deBruijn64tab", Rows.laid_math_bits_deBruijn64tab), ("internal/strconv.uint64pow10", Rows.laid_internal_strconv_uint64pow10), ("unicode/utf8.acceptRanges", Rows.laid_unicode_utf8_acceptRanges), ("strconv.ErrRange", Rows.laid_strconv_ErrRange), ("strconv.ErrSyntax", Rows.laid_strconv_ErrSyntax), ("unicode/utf8.first", Rows.laid_unicode_utf8_first)]
theorem plain7 : (laid7.all fun x => x.2.handleName?.isNone) = true := by kernel_rfl
set_option maxRecDepth 100000 in
theorem met7 (os : Os) (args : Array Value) : laidMetH Tryd.prog laid7 ((World.laidAll Tryd.prog os laid7).forCall (fun _ _ => 0) ⟨#[], args, []⟩).memory := by
  rw [MakeChecks.laidMetH_plain _ _ _ plain7]
  exact laidMet_laidAll _ (by kernel_rfl) (by kernel_rfl)
theorem gPow : ∃ g, Tryd.prog.globalNamed "internal/strconv.uint64pow10" = some g ∧ (Tryd.prog.globals[g]?).map (·.type) = some 241 := ⟨1, by kernel_rfl, by kernel_rfl⟩
theorem pow_data : (Rows.laid_internal_strconv_uint64pow10 : DataW Unit) = Lib.tabData .u64 Lib.pow10Tab := by kernel_rfl
theorem gSyn : Tryd.prog.globalNamed "strconv.ErrSyntax" = some 4 ∧ (Tryd.prog.globals[4]?).map (·.type) = some 163 := ⟨by kernel_rfl, by kernel_rfl⟩
theorem gRng : Tryd.prog.globalNamed "strconv.ErrRange" = some 5 ∧ (Tryd.prog.globals[5]?).map (·.type) = some 163 := ⟨by kernel_rfl, by kernel_rfl⟩
theorem lib7 {W : World} (h : laidMetH Tryd.prog laid7 W) : Lib.TabIs Tryd.prog W "internal/strconv.uint64pow10" .u64 Lib.pow10Tab ∧ (∃ tp p, W.cell? ⟨4, 0, none⟩ = some (.iface tp p)) ∧ ∃ tp p, W.cell? ⟨5, 0, none⟩ = some (.iface tp p) := by
  rw [MakeChecks.laidMetH_plain _ _ _ plain7] at h
  unfold laid7 at h
  rw [pow_data] at h
  obtain ⟨ps, ⟨_, _, _, _, _, _, _, _, _, _, ⟨_, _, _, _, _, _, _, _, _, _, ⟨g3, t3, cs3, fl3, p3, q3, hg3, ht3, hv3, hd3, ⟨_, _, _, _, _, _, _, _, _, _, ⟨g5, t5, cs5, fl5, p5, q5, hg5, ht5, hv5, hd5, ⟨g6, t6, cs6, fl6, p6, q6, hg6, ht6, hv6, hd6, _, _⟩, _⟩, _⟩, _⟩, _⟩, _⟩, _⟩ := h
  obtain ⟨g, hg, hty⟩ := gPow
  obtain rfl := Option.some.inj (hg.symm.trans hg3)
  obtain rfl := Option.some.inj (hty.symm.trans ht3)
  obtain rfl := Option.some.inj (gRng.1.symm.trans hg5)
  obtain rfl := Option.some.inj (gRng.2.symm.trans ht5)
  obtain rfl := Option.some.inj (gSyn.1.symm.trans hg6)
  obtain rfl := Option.some.inj (gSyn.2.symm.trans ht6)
  refine ⟨?_, ?_, ?_⟩
  · unfold Lib.TabIs
    rw [hv3, ← Lib.cells_of_tab Tryd.underlying241 Tryd.underlying222 (by kernel_rfl) (by kernel_rfl) hd3]
  · obtain ⟨_, u, v, he, _, _⟩ := iface_of_trod Tryd.underlying163 hd6
    exact ⟨u, v, by rw [World.var?_cell gSyn.1 hv6 0, ← Array.getElem?_toList, he]; rfl⟩
  · obtain ⟨_, u, v, he, _, _⟩ := iface_of_trod Tryd.underlying163 hd5
    exact ⟨u, v, by rw [World.var?_cell gRng.1 hv5 0, ← Array.getElem?_toList, he]; rfl⟩
/-- What the listed variables give: the library's functions read what they want, whatever the call makes. -/
theorem libB7 {W : World} (h : laidMetH Tryd.prog laid7 W) (hm : ∃ m, W.cell? ⟨0, 0, none⟩ = some (.int .i64 m)) : LibB W.heap.size W := by
  obtain ⟨h1, ⟨t2, p2, h2⟩, t3, p3, h3⟩ := lib7 h
  obtain ⟨m, h4⟩ := hm
  intro w' hb
  have key : ∀ {a : Addr} {v : Value}, W.cell? a = some v → w'.cell? a = some v := fun hc => (hb.cell (World.block_lt_of_cell? W _ hc)).trans hc
  exact ⟨Lib.tabBelow_of_tabIs h1 w' hb, ⟨t2, p2, key h2⟩, ⟨t3, p3, key h3⟩, ⟨m, key h4⟩⟩
theorem max7 {W : World} (h : W.ShapedOpen Tryd.prog) : ∃ m, W.cell? ⟨0, 0, none⟩ = some (.int .i64 m) :=
  cell_of_shapedOpen_int (P := Tryd.prog) (g := 0) (t := 3) (zero := #[.int .i64 0]) h (of_decide_eq_true (by kernel_rfl)) (by kernel_rfl) rfl (by kernel_rfl) (by kernel_rfl) Tryd.underlying3
end Go.Proofs.YtagffmalmkcboaaDoor

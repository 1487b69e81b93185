/- Stim: from a row's listed variables to what the library's functions read. -/
import Derived.Test.YtjbglgmbnjdhcaaDoorStmK
import Derived.Test.YtjbglgmbnjdhcaaDoorArgS
import Derived.Test.YtjbglgmbnjdhcaaDoorStmC
import Derived.Test.YtjbglgmbnjdhcaaDoorTie
import Derived.Lib.LaidTab
import Derived.ChangeMaps5
import Derived.MapKept
import Derived.LaidMore
import Derived.Stop.Joined
import Derived.Lay
import Derived.Shelf.Vars
namespace Go.Proofs.YtjbglgmbnjdhcaaDoor
open Go.RowKit Go.ChangeShapes Go.WideShapes

section
variable {H : Type} {enc : TypeId × Value → H} {W : World}
def PropOk (z : Int × Int) : Prop := (0 ≤ z.1 ∧ z.1 ≤ 255) ∧ I64 z.2
theorem cell_prop {cs : List Value} {n : Nat} {x : DataW H × List MemPlace} (hl : cs.length = 2) (h : DataW.trod enc Tryd.prog W 0 (fun _ => true) true n 57 cs = some x) : ∃ z, cs = encPp z ∧ PropOk z := by
  match cs, hl with
  | [a, b], _ =>
  obtain ⟨y0, y1, n', _, _, h0, h1⟩ := trod_struct2 Tryd.underlying57 h
  simp [one_int, one_u8] at h0 h1
  obtain ⟨z0, e0, _, w0⟩ := DataW.trod_int Tryd.underlying5 h0
  obtain ⟨z1, e1, w1⟩ := cell_int h1
  simp only [encI, List.cons.injEq, and_true] at e0 e1
  subst e0 e1
  exact ⟨(z0, z1), rfl, by simpa [Lit.wf, IntKind.min, IntKind.max, IntKind.signed, IntKind.bits] using w0, w1⟩
theorem one_props : Tryd.prog.cellsOf 22 = 1 := by kernel_rfl
theorem two_prop : Tryd.prog.cellsOf 57 = 2 := by kernel_rfl
set_option maxRecDepth 100000 in
theorem arg_size {base : Nat} {v : Value} {d : DataW H} {ps : List MemPlace}
    (hval : Value.okWide Tryd.prog W .any base 30 v) (h : DataW.Trod enc Tryd.prog W 0 (fun _ => true) true 30 v d ps) : ∃ a b : Int, v = .agg #[.int .i64 a, .int .i64 b] := by
  obtain ⟨cs, rfl, hcs⟩ := okWide_struct Tryd.underlying30 hval
  obtain ⟨fuel, hf⟩ := h
  obtain ⟨y0, y1, n, _, hl, h0, h1⟩ := trod_struct2 Tryd.underlying30 hf
  have hcl : cs.size = 2 := by rw [hcs]; kernel_rfl
  obtain ⟨l⟩ := cs
  match l, hcl with
  | [c0, c1], _ =>
  simp [Value.cells, one_int] at h0 h1
  obtain ⟨z0, e0, _⟩ := cell_int h0
  obtain ⟨z1, e1, _⟩ := cell_int h1
  simp only [encI, List.cons.injEq, and_true] at e0 e1
  subst e0 e1
  exact ⟨z0, z1, rfl⟩
end
end Go.Proofs.YtjbglgmbnjdhcaaDoor

namespace Go.Proofs.YtjbglgmbnjdhcaaDoor
open Go.ChangeShapes Go.WideShapes Go.ChangeAt Go.RowKit

abbrev laid7 : List (String × DataW Unit) := [("math/bits.deBruijn32tab", Rows.laid_math_bits_deBruijn32tab), ("math/bits.deBruijn64tab", Rows.laid_math_bits_deBruijn64tab), ("internal/strconv.uint64pow10", Rows.laid_internal_strconv_uint64pow10), ("unicode/utf8.acceptRanges", Rows.laid_unicode_utf8_acceptRanges), ("strconv.ErrRange", Rows.laid_strconv_ErrRange), ("strconv.ErrSyntax", Rows.laid_strconv_ErrSyntax), ("unicode/utf8.first", Rows.laid_unicode_utf8_first)]
theorem plain7 : (laid7.all fun x => x.2.handleName?.isNone) = true := by kernel_rfl
set_option maxRecDepth 100000 in
theorem met7 (os : Os) (args : Array Value) : laidMetH Tryd.prog laid7 ((World.laidAll Tryd.prog os laid7).forCall (fun _ _ => 0) ⟨#[], args, []⟩).memory := by
  rw [MakeChecks.laidMetH_plain _ _ _ plain7]
  exact laidMet_laidAll _ (by kernel_rfl) (by kernel_rfl)
theorem gPow : ∃ g, Tryd.prog.globalNamed "internal/strconv.uint64pow10" = some g ∧ (Tryd.prog.globals[g]?).map (·.type) = some 117 := ⟨0, by kernel_rfl, by kernel_rfl⟩
theorem pow_data : (Rows.laid_internal_strconv_uint64pow10 : DataW Unit) = Lib.tabData .u64 Lib.pow10Tab := by kernel_rfl
theorem gSyn : Tryd.prog.globalNamed "strconv.ErrSyntax" = some 2 ∧ (Tryd.prog.globals[2]?).map (·.type) = some 88 := ⟨by kernel_rfl, by kernel_rfl⟩
theorem gRng : Tryd.prog.globalNamed "strconv.ErrRange" = some 3 ∧ (Tryd.prog.globals[3]?).map (·.type) = some 88 := ⟨by kernel_rfl, by kernel_rfl⟩
theorem lib7 {W : World} (h : laidMetH Tryd.prog laid7 W) : Lib.TabIs Tryd.prog W "internal/strconv.uint64pow10" .u64 Lib.pow10Tab ∧ (∃ tp p, W.cell? ⟨2, 0, none⟩ = some (.iface tp p)) ∧ ∃ tp p, W.cell? ⟨3, 0, none⟩ = some (.iface tp p) := by
  rw [MakeChecks.laidMetH_plain _ _ _ plain7] at h
  unfold laid7 at h
  rw [pow_data] at h
  obtain ⟨ps, ⟨_, _, _, _, _, _, _, _, _, _, ⟨_, _, _, _, _, _, _, _, _, _, ⟨g3, t3, cs3, fl3, p3, q3, hg3, ht3, hv3, hd3, ⟨_, _, _, _, _, _, _, _, _, _, ⟨g5, t5, cs5, fl5, p5, q5, hg5, ht5, hv5, hd5, ⟨g6, t6, cs6, fl6, p6, q6, hg6, ht6, hv6, hd6, _, _⟩, _⟩, _⟩, _⟩, _⟩, _⟩, _⟩ := h
  obtain ⟨g, hg, hty⟩ := gPow
  obtain rfl := Option.some.inj (hg.symm.trans hg3)
  obtain rfl := Option.some.inj (hty.symm.trans ht3)
  obtain rfl := Option.some.inj (gRng.1.symm.trans hg5)
  obtain rfl := Option.some.inj (gRng.2.symm.trans ht5)
  obtain rfl := Option.some.inj (gSyn.1.symm.trans hg6)
  obtain rfl := Option.some.inj (gSyn.2.symm.trans ht6)
  refine ⟨?_, ?_, ?_⟩
  · unfold Lib.TabIs
    rw [hv3, ← Lib.cells_of_tab Tryd.underlying117 Tryd.underlying104 (by kernel_rfl) (by kernel_rfl) hd3]
  · obtain ⟨_, u, v, he, _, _⟩ := iface_of_trod Tryd.underlying88 hd6
    exact ⟨u, v, by rw [World.var?_cell gSyn.1 hv6 0, ← Array.getElem?_toList, he]; rfl⟩
  · obtain ⟨_, u, v, he, _, _⟩ := iface_of_trod Tryd.underlying88 hd5
    exact ⟨u, v, by rw [World.var?_cell gRng.1 hv5 0, ← Array.getElem?_toList, he]; rfl⟩
/-- What the listed variables give: the library's functions read what they want, whatever the call makes. -/
theorem libB7 {W : World} (h : laidMetH Tryd.prog laid7 W) (hm : ∃ m, W.cell? ⟨1, 0, none⟩ = some (.int .i64 m)) : LibB W.heap.size W := by
  obtain ⟨h1, ⟨t2, p2, h2⟩, t3, p3, h3⟩ := lib7 h
  obtain ⟨m, h4⟩ := hm
  intro w' hb
  have key : ∀ {a : Addr} {v : Value}, W.cell? a = some v → w'.cell? a = some v := fun hc => (hb.cell (World.block_lt_of_cell? W _ hc)).trans hc
  exact ⟨Lib.tabBelow_of_tabIs h1 w' hb, ⟨t2, p2, key h2⟩, ⟨t3, p3, key h3⟩, ⟨m, key h4⟩⟩
theorem max7 {W : World} (h : W.ShapedOpen Tryd.prog) : ∃ m, W.cell? ⟨1, 0, none⟩ = some (.int .i64 m) :=
  cell_of_shapedOpen_int (P := Tryd.prog) (g := 1) (t := 3) (zero := #[.int .i64 0]) h (of_decide_eq_true (by kernel_rfl)) (by kernel_rfl) rfl (by kernel_rfl) (by kernel_rfl) Tryd.underlying3
end Go.Proofs.YtjbglgmbnjdhcaaDoor

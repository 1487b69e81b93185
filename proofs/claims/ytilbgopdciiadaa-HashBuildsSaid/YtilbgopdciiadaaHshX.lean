/- Hash: the contract of Build. -/
import Derived.Test.YtilbgopdciiadaaHshV
import Derived.Test.YtilbgopdciiadaaHshW
import Derived.Test.YtilbgopdciiadaaRenE
namespace Go.Proofs.Ytilbgopdciiadaa
open Go.RowKit Go.Maps

set_option maxHeartbeats 2000000 in
set_option maxRecDepth 100000 in
theorem Build_no (w : World) (V : CV) (C : Circ) (h : C.In w V) (ok : C.Ok) (hz : (checkR C).2 ≠ 0) :
    Calls Try.prog 8 #[V.val C.max] w fun e w' => Below w.heap.size w w' ∧ e = .returned (.tuple #[.agg #[.int .i64 0, .slice none 0 0, .slice none 0 0, .slice none 0 0, .slice none 0 0, .slice none 0 0, .slice none 0 0, .slice none 0 0, .slice none 0 0, .slice none 0 0, .slice none 0 0], .slice none 0 0, .int .i64 (checkR C).2]) := by
  obtain ⟨m, hmm⟩ : ∃ m, C.max = m := ⟨_, rfl⟩
  obtain ⟨Vi, Vl, Vo, Vb, Vc, Vj, Vf, Va, Vs, Vt⟩ := V
  obtain ⟨W0, hW0⟩ : ∃ W0, W0 = (w.alloc (.cells #[.int .i64 m, Vi, Vl, Vo, Vb, Vc, Vj, Vf, Va, Vs, Vt] 29)).alloc (.cells #[.int .i64 0, .slice none 0 0, .slice none 0 0, .slice none 0 0, .slice none 0 0, .slice none 0 0, .slice none 0 0, .slice none 0 0, .slice none 0 0, .slice none 0 0, .slice none 0 0] 29) := ⟨_, rfl⟩
  have HB0 : Hid (Below w.heap.size w W0) := Lib.hid (by rw [hW0]; exact ((Below.refl w.heap.size w).alloc (Nat.le_refl _) _).alloc (by simp) _)
  have h1 : Blk W0 (w.heap.size + 1) 29 #[.int .i64 0, .slice none 0 0, .slice none 0 0, .slice none 0 0, .slice none 0 0, .slice none 0 0, .slice none 0 0, .slice none 0 0, .slice none 0 0, .slice none 0 0, .slice none 0 0] := by
    rw [hW0]
    have := Blk.new (w.alloc (.cells #[.int .i64 m, Vi, Vl, Vo, Vb, Vc, Vj, Vf, Va, Vs, Vt] 29)) 29 #[.int .i64 0, .slice none 0 0, .slice none 0 0, .slice none 0 0, .slice none 0 0, .slice none 0 0, .slice none 0 0, .slice none 0 0, .slice none 0 0, .slice none 0 0, .slice none 0 0]
    simpa using this
  have hord := Order_any W0 _ C (h.below HB0.out) ok
  obtain ⟨r, hr⟩ : ∃ r, (checkR C).2 = r := ⟨_, rfl⟩
  rw [hr, hmm] at hord
  rw [hr] at hz ⊢
  rw [hmm]
  have hq : (r != 0) = true := by simpa using hz
  have HZ := Lib.hid hz
  have HORD := Lib.hid hord
  have H1 := Lib.hid h1
  have HW0 := Lib.hid hW0
  clear h ok hz hr hmm h1 hord hW0
  rw [HW0.out] at HORD
  go_enter Try.func8, Try.ntmps8
  go_upto_region 3 with (go_at_call 35; go_loud (refine HORD.out.mono ?_; rw [← HW0.out]; rintro e w1 ⟨hb1, vg, out, rfl, _, _⟩; have HB1 := Lib.hid hb1; have hbz := H1.out.below hb1 H1.out.lt; have HBZ := Lib.hid hbz; clear hb1 hbz))
  obtain ⟨z0, z1, z2, z3, z4, z5, z6, z7, z8, z9, z10⟩ := box_of HBZ.out
  obtain ⟨y0, y1, y2, y3, y4, y5, y6, y7, y8, y9, y10⟩ := blk_frozen11 HBZ.out
  have hR9 : Blk (set11 w1 (w.heap.size + 1) (.int .i64 0) (.slice none 0 0) (.slice none 0 0) (.slice none 0 0) (.slice none 0 0) (.slice none 0 0) (.slice none 0 0) (.slice none 0 0) (.slice none 0 0) (.slice none 0 0) (.slice none 0 0)) (w.heap.size + 1) 29 #[.int .i64 0, .slice none 0 0, .slice none 0 0, .slice none 0 0, .slice none 0 0, .slice none 0 0, .slice none 0 0, .slice none 0 0, .slice none 0 0, .slice none 0 0, .slice none 0 0] := set11_blk HBZ.out (.int .i64 0) (.slice none 0 0) (.slice none 0 0) (.slice none 0 0) (.slice none 0 0) (.slice none 0 0) (.slice none 0 0) (.slice none 0 0) (.slice none 0 0) (.slice none 0 0) (.slice none 0 0)
  have hB9 : Below w.heap.size w (set11 w1 (w.heap.size + 1) (.int .i64 0) (.slice none 0 0) (.slice none 0 0) (.slice none 0 0) (.slice none 0 0) (.slice none 0 0) (.slice none 0 0) (.slice none 0 0) (.slice none 0 0) (.slice none 0 0) (.slice none 0 0)) := set11_below (bt HB0.out (Nat.le_refl _) HB1.out) (Nat.le_succ _) (.int .i64 0) (.slice none 0 0) (.slice none 0 0) (.slice none 0 0) (.slice none 0 0) (.slice none 0 0) (.slice none 0 0) (.slice none 0 0) (.slice none 0 0) (.slice none 0 0) (.slice none 0 0)
  obtain ⟨wq, hwq⟩ : ∃ wq, wq = (set11 w1 (w.heap.size + 1) (.int .i64 0) (.slice none 0 0) (.slice none 0 0) (.slice none 0 0) (.slice none 0 0) (.slice none 0 0) (.slice none 0 0) (.slice none 0 0) (.slice none 0 0) (.slice none 0 0) (.slice none 0 0)) := ⟨_, rfl⟩
  rw [← hwq] at hR9 hB9
  unfold set11 at hwq
  have HR9 := Lib.hid hR9
  have HB9 := Lib.hid hB9
  have HWQ := Lib.hid hwq
  clear hR9 hB9 hwq
  go_wp2
  rw [← HWQ.out]
  refine bodyPost_ret (results_cell_two (fn := Try.f8) (p := 2) (q := 3) (r := 4) rfl _ wq (w.heap.size + 1) 29 #[.int .i64 0, .slice none 0 0, .slice none 0 0, .slice none 0 0, .slice none 0 0, .slice none 0 0, .slice none 0 0, .slice none 0 0, .slice none 0 0, .slice none 0 0, .slice none 0 0] (0, 0) _ rfl HR9.out Try.underlying29 rfl (by kernel_rfl) _ _ rfl rfl) rfl ?_
  exact ⟨HB9.out, rfl⟩

theorem sum_ge : ∀ (J : List (List Int)) (s : Int), 0 ≤ s → s + 17592186044416 * (J.length : Int) ≤ 9000000000000000000 → (∀ zs ∈ J, (zs.length : Int) ≤ 17592186044416) → s ≤ J.foldl (fun s zs => wrap64 (s + (zs.length : Int))) s ∧ ∀ zs ∈ J, (zs.length : Int) ≤ J.foldl (fun s zs => wrap64 (s + (zs.length : Int))) s
  | [], s, _, _, _ => ⟨Int.le_refl _, fun _ h => by cases h⟩
  | z :: r, s, h0, h1, h2 => by
    have hz := h2 z (by simp)
    rw [List.length_cons] at h1
    push_cast at h1
    have e : wrap64 (s + (z.length : Int)) = s + z.length := by unfold wrap64; omega
    obtain ⟨k1, k2⟩ := sum_ge r (s + z.length) (by omega) (by omega) (fun zs h => h2 zs (by simp [h]))
    rw [List.foldl_cons, e]
    refine ⟨by omega, fun zs hm => ?_⟩
    rcases List.mem_cons.1 hm with rfl | hm
    · omega
    · exact k2 zs hm
theorem just_short {C : Circ} (hz : (checkR C).2 = 0) (rm : C.Room) : ∀ zs ∈ C.justice, zs.length ≤ 16384 := fun zs hm => by
  obtain ⟨h1, _⟩ := check_parts hz
  obtain ⟨_, hsz⟩ := sizes_all h1
  have hs := hsz (sumW C.justice) (by simp [sizesL])
  have hnj := (right_of hz).nj
  have := (sum_ge C.justice 0 (Int.le_refl _) (by omega) (fun z hz => by have := rm.js z hz; omega)).2 zs hm
  unfold sumW at hs
  omega
theorem cop_one {w : World} {B : Nat} {V : CV} {us : List Value} {X : Circ} {mx : Int} (h : Cop w B V us X) : (V.cells mx).all (·.oneCell') = true := by
  obtain ⟨_, _, e0⟩ := own_slice (h.fam.own (V.i, X.inputs) (by simp))
  obtain ⟨_, _, e1⟩ := own_slice_k h.l
  obtain ⟨_, _, e2⟩ := own_slice (h.fam.own (V.o, X.outputs) (by simp))
  obtain ⟨_, _, e3⟩ := own_slice (h.fam.own (V.b, X.bads) (by simp))
  obtain ⟨_, _, e4⟩ := own_slice (h.fam.own (V.c, X.constraints) (by simp))
  obtain ⟨_, _, e5⟩ := own_slice_k h.j
  obtain ⟨_, _, e6⟩ := own_slice (h.fam.own (V.f, X.fairness) (by simp))
  obtain ⟨_, _, e7⟩ := own_slice_k h.a
  obtain ⟨_, _, e8⟩ := own_slice_k h.s
  obtain ⟨_, _, e9⟩ := own_slice_k h.t
  simp only at e0 e2 e3 e4 e6
  simp only [CV.cells]
  rw [e0, e1, e2, e3, e4, e5, e6, e7, e8, e9]
  simp [Value.oneCell']
set_option maxHeartbeats 4000000 in
set_option maxRecDepth 100000 in
theorem Build_ok (w : World) (V : CV) (C : Circ) (O : List Int) (h : C.In w V) (ok : C.Ok) (rm : C.Room) (hz : (checkR C).2 = 0) (hO : IsOrd C O) :
    Calls Try.prog 8 #[V.val C.max] w fun e w' => Below w.heap.size w w' ∧ ∃ V' us g B', e = .returned (.tuple #[CV.val V' (bldX C O).max, .slice (some ⟨g, 0, none⟩) (C.max.toNat + 1) (C.max.toNat + 1), .int .i64 0]) ∧
      w.heap.size ≤ g ∧ g < B' ∧ w.heap.size ≤ B' ∧ Cop w' B' V' us (bldX C O) ∧ Nums w' g (bldM C O) := by
  have HRT := Lib.hid (right_of hz)
  have HRM := Lib.hid rm
  have HJS := Lib.hid (just_short hz rm)
  have HFI := Lib.hid (fine_of hz)
  have HHZ := Lib.hid hz
  have HHO := Lib.hid hO
  have HTI := Lib.hid (tellI_of (fine_of hz) hO)
  have hle := defs_le (fine_of hz) hO
  have hmx1 := (right_of hz).m1
  have hmx0 := (right_of hz).m0
  obtain ⟨AI, cI, eI, _, _, _⟩ := h.i
  obtain ⟨AL, cL, eL, _, _, _⟩ := h.l
  obtain ⟨nI, hnI⟩ : ∃ n, C.inputs.length = n := ⟨_, rfl⟩
  obtain ⟨nL, hnL⟩ : ∃ n, C.latches.length = n := ⟨_, rfl⟩
  rw [hnI] at eI
  rw [hnL] at eL
  have HEI := Lib.hid eI
  have HEL := Lib.hid eL
  have HNB : Hid (newB (nI : Int) (nL : Int) = true) := Lib.hid (newB_iff.2 ⟨by omega, by omega, by omega⟩)
  have HBD : Hid (bdN (nI : Int) (nL : Int) = bd0 C) := Lib.hid (by simp [bdN, bd0, hnI, hnL])
  obtain ⟨W0, hW0⟩ : ∃ W0, (w.alloc (.cells (V.cells C.max) 29)).alloc (.cells #[.int .i64 0, .slice none 0 0, .slice none 0 0, .slice none 0 0, .slice none 0 0, .slice none 0 0, .slice none 0 0, .slice none 0 0, .slice none 0 0, .slice none 0 0, .slice none 0 0] 29) = W0 := ⟨_, rfl⟩
  have HB0 : Hid (Below w.heap.size w W0) := Lib.hid (by rw [← hW0]; exact ((Below.refl w.heap.size w).alloc (Nat.le_refl _) _).alloc (by simp) _)
  have HX0 : Hid (Blk W0 w.heap.size 29 (V.cells C.max)) := Lib.hid (by rw [← hW0]; exact (Blk.new w _ _).alloc _)
  have H1 : Hid (Blk W0 (w.heap.size + 1) 29 #[.int .i64 0, .slice none 0 0, .slice none 0 0, .slice none 0 0, .slice none 0 0, .slice none 0 0, .slice none 0 0, .slice none 0 0, .slice none 0 0, .slice none 0 0, .slice none 0 0]) := Lib.hid (by
    rw [← hW0]
    have := Blk.new (w.alloc (.cells (V.cells C.max) 29)) 29 #[.int .i64 0, .slice none 0 0, .slice none 0 0, .slice none 0 0, .slice none 0 0, .slice none 0 0, .slice none 0 0, .slice none 0 0, .slice none 0 0, .slice none 0 0, .slice none 0 0]
    simpa using this)
  have HS0 : Hid (W0.heap.size = w.heap.size + 1 + 1) := Lib.hid (by rw [← hW0]; simp)
  have HIN : Hid (∀ wz, Below W0.heap.size W0 wz → C.In wz V) := Lib.hid (fun wz hb => (h.below HB0.out).below hb)
  have hord := Order_any W0 _ C (h.below HB0.out) ok
  rw [hz] at hord
  have HORD := Lib.hid hord
  have HW0 := Lib.hid hW0
  have HCELL : Hid (∀ wz, Below W0.heap.size W0 wz → wz.heap[w.heap.size]? = some (.cells (V.cells C.max) 29 (0, 0)) ∧ wz.cell? ⟨w.heap.size, 1, none⟩ = some (.slice AI nI cI) ∧ wz.cell? ⟨w.heap.size, 2, none⟩ = some (.slice AL nL cL)) := Lib.hid (fun wz hb => by
    have hx := HX0.out.below hb HX0.out.lt
    have c1 := hx.cell 1
    have c2 := hx.cell 2
    simp only [CV.cells, List.getElem?_toArray, List.getElem?_cons_zero, List.getElem?_cons_succ] at c1 c2
    rw [HEI.out] at c1
    rw [HEL.out] at c2
    exact ⟨hx, c1, c2⟩)
  have HN := Lib.hid (And.intro hnI hnL)
  have HBW0 := Lib.hid (HCELL.out W0 (Below.refl _ _))
  clear h ok rm hz hO hord hW0 eI eL hle hnI hnL
  go_enter Try.func8, Try.ntmps8
  go_upto_region 1 with (fail)
  rw [HW0.out]
  go_upto_region 2 with (first
    | (refine wpList_load_row rfl 29 (.tmp 1) rfl w.heap.size rfl 29 (V.cells C.max) (0, 0) _ HBW0.out.1 Try.underlying29 rfl (by kernel_rfl) ?_)
    | (go_at_call 35; refine HORD.out.mono ?_; rintro e w1 ⟨hb1, vg, out, rfl, _, hok⟩; obtain ⟨ho1, hg1, hl1⟩ := hok rfl; obtain rfl := HHO.out.same hg1 hl1; have HB1 := Lib.hid hb1; have HO1 := Lib.hid ho1; have HC1 := Lib.hid (HCELL.out w1 hb1); clear hb1 ho1 hg1 hl1 hok))
  obtain ⟨Ag, cg, hvg⟩ := own_slice HO1.out
  subst hvg
  have c1 := HC1.out.2.1
  have c2 := HC1.out.2.2
  have HNEW := Lib.hid (hNew_any w1 (nI : Int) (nL : Int))
  have HGV := Lib.hid (own_rowe lenI (by rw [flat_ints]; exact HO1.out))
  go_upto_region 5 with (go_at_call 36; refine HNEW.out.mono ?_; rintro e w2 ⟨hb2, hyes, _⟩; obtain ⟨bx, F, rfl, hh, hfr⟩ := hyes HNB.out; rw [HBD.out] at hh; have HB2 := Lib.hid hb2; have HH2 := Lib.hid hh; have HF2 := Lib.hid hfr; clear hb2 hyes hh hfr)
  have HC2 := Lib.hid (HCELL.out w2 (bt HB1.out (Nat.le_refl _) HB2.out))
  have HTELL := Lib.hid (tell_any w1 w2 bx F V C _ out (HIN.out w1 HB1.out) HGV.out HB2.out HH2.out HF2.out HHZ.out HHO.out)
  clear c1 c2
  go_upto_region 6 with (first
    | (refine wpList_load_row rfl 29 (.tmp 1) rfl w.heap.size rfl 29 (V.cells C.max) (0, 0) _ HC2.out.1 Try.underlying29 rfl (by kernel_rfl) ?_)
    | (go_at_call 37; refine HTELL.out.mono ?_; rintro e w3 ⟨g, cb, rfl, ht⟩; have HT := Lib.hid ht; clear ht))
  have HB13 : Hid (Below W0.heap.size W0 w3) := Lib.hid (bt HB1.out (Nat.le_refl _) HT.out.below)
  have HC3 := Lib.hid (HCELL.out w3 HB13.out)
  obtain ⟨F3, f1, f2, f3, f4⟩ := HT.out.bld
  have HBUILT := Lib.hid (built_any w3 bx (bldB C out) F3 V C g (C.max.toNat + 1) (bldM C out) f1 (HIN.out w3 HB13.out) HRT.out HJS.out HRM.out HT.out.nums HTI.out.len rfl (map_ok HTI.out.ok HTI.out.has))
  have HG3 : Hid (g < w3.heap.size ∧ w1.heap.size ≤ g) := Lib.hid ⟨Blk.lt HT.out.nums, HT.out.lo⟩
  clear f1 f2 f3 f4
  go_wp2_with (first
    | (refine wpList_load_row rfl 29 (.tmp 1) rfl w.heap.size rfl 29 (V.cells C.max) (0, 0) _ HC3.out.1 Try.underlying29 rfl (by kernel_rfl) ?_)
    | (go_at_call 38; refine HBUILT.out.mono ?_; rintro e w4 ⟨V', us, rfl, hb4, hcop⟩; have HB4 := Lib.hid hb4; have HCOP := Lib.hid hcop; have hres := H1.out.below (bt HB13.out (Nat.le_refl _) hb4) H1.out.lt; have HRES := Lib.hid hres; have HONE : Hid ((V'.cells ((bldB C out).last : Int)).all (·.oneCell') = true) := Lib.hid (cop_one hcop); clear hb4 hcop hres)
    | (refine wpList_store_row rfl 29 (.tmp 2) (.tmp 36) rfl (w.heap.size + 1) (V'.cells ((bldB C out).last : Int)) rfl rfl 29 _ HRES.out (by kernel_rfl) rfl HONE.out ?_))
  have hw9 : Blk (w4.setRow (w.heap.size + 1) (V'.cells ((bldB C out).last : Int))) (w.heap.size + 1) 29 (V'.cells ((bldB C out).last : Int)) := setRow_heap w4 (w.heap.size + 1) _ (V'.cells ((bldB C out).last : Int)) _ _ HRES.out
  refine bodyPost_ret (results_cell_two (fn := Try.f8) (p := 2) (q := 3) (r := 4) rfl _ _ (w.heap.size + 1) 29 (V'.cells ((bldB C out).last : Int)) (0, 0) _ rfl hw9 Try.underlying29 rfl (by kernel_rfl) (.slice (some ⟨g, 0, none⟩) (C.max.toNat + 1) (C.max.toNat + 1)) (.int .i64 0) rfl rfl) rfl ?_
  have hs0 := HS0.out
  have hs1 := HB1.out.size
  have hs3 := HT.out.below.size
  have hg3 := HG3.out
  have h := HCOP.out
  have hoth : ∀ k, k ≠ w.heap.size + 1 → (w4.setRow (w.heap.size + 1) (V'.cells ((bldB C out).last : Int))).heap[k]? = w4.heap[k]? := fun k hk => setRow_other _ _ _ _ hk
  have hne : ∀ {t : TypeId} {k n : Nat} {v : Value} {xs : List Value}, w4.ownsRow w3.heap.size t k v n xs → (w4.setRow (w.heap.size + 1) (V'.cells ((bldB C out).last : Int))).ownsRow w3.heap.size t k v n xs := fun ho =>
    own_of_block ho fun g hg => hoth g (fun e => by have := (ho.lt g hg).1; omega)
  have hbel : Below w.heap.size w w4 := bt (bt HB0.out (Nat.le_refl _) HB13.out) (Nat.le_refl _) HB4.out
  have hnum : Nums w4 g (bldM C out) := Blk.below HT.out.nums HB4.out (Blk.lt HT.out.nums)
  refine ⟨⟨hbel.os, hbel.tape, hbel.output, by rw [size_setRow]; exact hbel.size, fun k hk => (hoth _ (by omega)).trans (hbel.block k hk)⟩, V', us, g, w3.heap.size, rfl, by omega, by omega, by omega, ⟨⟨fun p hp => hne (h.fam.own p hp), h.fam.apart⟩, h.ul, hne h.j, hne h.l, hne h.a, hne h.s, hne h.t⟩, (hoth g (by omega)).trans hnum⟩
section
variable {C : Circ} {O : List Int}
end
end Go.Proofs.Ytilbgopdciiadaa

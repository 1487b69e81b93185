/- Encode: the contracts of formulaOf and Gates. -/
import Derived.Test.YtbgdhfnfbahdhabEncA
namespace Go.Proofs.Ytbgdhfnfbahdhab
open Go.RowKit

theorem gates_in {C : Circ} {m : Nat} (h0 : (checkR C).2 = 0) (hm : C.max = (m : Int)) : ∀ z ∈ C.ands, (0 ≤ z.1 ∧ z.1 / 2 ≤ (m : Int)) ∧ (0 ≤ z.2.1 ∧ z.2.1 / 2 ≤ (m : Int)) ∧ 0 ≤ z.2.2 ∧ z.2.2 / 2 ≤ (m : Int) := fun z hz => by
  have h1 := (fine_of h0).u.a z hz
  have h2 := (fine_of h0).d.two z.1 (by unfold defsL; exact List.mem_append_right _ (List.mem_map.2 ⟨z, hz, rfl⟩))
  have h3 := h1.1.2.1
  have h4 := h1.2.2.1
  rw [hm] at h2 h3 h4
  exact ⟨⟨by omega, h2.2.2⟩, ⟨h1.1.1, h3⟩, h1.2.1, h4⟩

theorem below_setRowE {B : Nat} {a w : World} {g : Nat} {cs : Array Value} (h : Below B a w) (hg : B ≤ g) : Below B a (w.setRow g cs) :=
  ⟨h.os, h.tape, h.output, by rw [size_setRow]; exact h.size, fun k hk => (setRow_other _ _ _ _ (by omega)).trans (h.block k hk)⟩
section
variable {P : Program} {md : Region.Mode} {ops : Array Oper} {Q : Exit → Act → World → Prop} {S : World → Prop} {n : Nat}
theorem wpAnyT_threeE {i j k fuel : Nat} {listed : Array Bool} {a : Act} {w : World} (hr : Region.ready md ops listed = [i, j, k])
    (h1 : wpOp P ops Q i (fun a' w' => (i < n → S w') ∧ wpAnyT P md ops Q S n fuel (listed.setIfInBounds i true) a' w') a w)
    (h2 : wpOp P ops Q j (fun a' w' => (j < n → S w') ∧ wpAnyT P md ops Q S n fuel (listed.setIfInBounds j true) a' w') a w)
    (h3 : wpOp P ops Q k (fun a' w' => (k < n → S w') ∧ wpAnyT P md ops Q S n fuel (listed.setIfInBounds k true) a' w') a w) : wpAnyT P md ops Q S n (fuel + 1) listed a w := by
  refine ⟨fun h0 => (by rw [hr] at h0; cases h0), fun x hx => ?_⟩
  rw [hr] at hx
  simp only [List.mem_cons, List.not_mem_nil, or_false] at hx
  rcases hx with rfl | rfl | rfl
  · exact h1
  · exact h2
  · exact h3
end
theorem blk_roweE {E : Type} {k : Nat} {enc : E → List Value} {w : World} {g : Nat} {t : TypeId} {zs : List E} (hk : ∀ z, (enc z).length = k) (h : Blk w g t (zs.flatMap enc).toArray) (hm : zs.length ≤ maxLen) : RowE k enc w (.slice (some ⟨g, 0, none⟩) zs.length zs.length) zs :=
  ⟨_, _, rfl, Nat.le_refl _, hm, fun i z hz => ⟨g, 0, rfl, h.lt, fun j u hu => by
    have hj : j < k := by rw [← hk z]; exact (List.getElem?_eq_some_iff.1 hu).1
    rw [Nat.zero_add, h.cell, List.getElem?_toArray, flat_get hk zs i z hz j hj]; exact hu⟩⟩
theorem row_new (W : World) (g : Nat) (h : W.heap.size = g) (xs : List Int) (hx : xs.length ≤ 1000) : RowE 1 encI (W.alloc (.cells (xs.flatMap encI).toArray 3)) (.slice (some ⟨g, 0, none⟩) xs.length xs.length) xs := by
  subst h
  exact blk_roweE lenI (Blk.new W 3 _) (by simp only [maxLen]; omega)
set_option maxHeartbeats 8000000 in
set_option maxRecDepth 100000 in
theorem formulaOf_any (w : World) (V : CV) (m : Nat) (gv : Value) (zs : List Tri) (hm1 : m ≤ 16384) (hg : RowE 3 encT w gv zs) (hn : zs.length ≤ 16384)
    (hz : ∀ z ∈ zs, (0 ≤ z.1 ∧ z.1 / 2 ≤ (m : Int)) ∧ (0 ≤ z.2.1 ∧ z.2.1 / 2 ≤ (m : Int)) ∧ 0 ≤ z.2.2 ∧ z.2.2 / 2 ≤ (m : Int)) :
    Calls Try.prog 13 #[V.val m, gv] w fun e w' => Below w.heap.size w w' ∧ ∃ v us, e = .returned (.agg #[.int .i64 ((m : Int) + 1), v]) ∧ CRow w' w.heap.size v us (formC zs) := by
  obtain ⟨GA, gc, hge, hg1, hg2, hrun⟩ := hg
  subst hge
  obtain ⟨n, hnn⟩ : ∃ n, zs.length = n := ⟨_, rfl⟩
  rw [hnn] at hn hg1 ⊢
  obtain ⟨W0, hW0⟩ : ∃ W0, (w.alloc (.cells (V.cells m) 29)).alloc (.cells #[.int .i64 0, .slice none 0 0] 34) = W0 := ⟨_, rfl⟩
  have HB0 : Hid (Below w.heap.size w W0) := Lib.hid (by rw [← hW0]; exact ((Below.refl w.heap.size w).alloc (Nat.le_refl _) _).alloc (by simp) _)
  have HX0 : Hid (Blk W0 w.heap.size 29 (V.cells m)) := Lib.hid (by rw [← hW0]; exact (Blk.new w _ _).alloc _)
  have H1 : Hid (Blk W0 (w.heap.size + 1) 34 #[.int .i64 0, .slice none 0 0]) := Lib.hid (by
    rw [← hW0]
    have := Blk.new (w.alloc (.cells (V.cells m) 29)) 34 #[.int .i64 0, .slice none 0 0]
    simpa using this)
  have HS0 : Hid (W0.heap.size = w.heap.size + 1 + 1) := Lib.hid (by rw [← hW0]; simp)
  have HVO := Lib.hid (fun wx => varsOf_any wx V m (by omega))
  have HW0 := Lib.hid hW0
  have HRUN := Lib.hid hrun
  have HZ := Lib.hid hz
  have HN := Lib.hid hnn
  have hcap : ∃ cp : Nat, 1 + 3 * (n : Int) = (cp : Int) ∧ cp ≤ 100000 := ⟨1 + 3 * n, by push_cast; rfl, by omega⟩
  obtain ⟨cp, hcp, hcp2⟩ := hcap
  have hw1 : IntKind.i64.wrap (3 * (n : Int)) = 3 * (n : Int) := i64_in (by omega)
  have hw2 : IntKind.i64.wrap (1 + 3 * (n : Int)) = (cp : Int) := by rw [hcp]; exact i64_in (by omega)
  have hmk := make_clauses cp (by omega)
  have hl0 := literal_any W0 0 (by omega) (by omega)
  clear hrun hz hnn hW0 hg1 hg2 hcp hl0
  go_enter Try.func13, Try.ntmps13
  go_upto_region 1 with (fail)
  rw [HW0.out]
  go_cut [5] (fun p wx => ∃ (gf : Nat) (v : Value), p = .pointer (some ⟨gf, 0, none⟩) ∧ Below W0.heap.size W0 wx ∧ W0.heap.size ≤ gf ∧ Blk wx gf 74 #[.int .i64 ((m : Int) + 1), v] ∧ CRow wx W0.heap.size v [] [])
  case first =>
    refine wp_region_T (by kernel_rfl) (fun w' => Blk w' w.heap.size 29 (V.cells m)) 10 ?_
    have hHeld := HX0.out.drew
    refine wpAnyT_take (i := 0) (v := ?v0q1) rfl (by kernel_rfl) (fun _ _ _ h => h) (by rfl) hHeld ?h0q1 ?_
    case h0q1 => (intro w' hSw; (try dsimp only at hSw); obtain ⟨c0, c1, c2, c3, c4, c5, c6, c7, c8, c9, c10⟩ := rbox_of hSw; go_simp; try with_reducible rfl)
    (try simp only [Act.put, List.setIfInBounds_toArray])
    refine wpAnyT_take (i := 2) (v := ?v2q2) rfl (by kernel_rfl) (fun _ _ _ h => h) (by rfl) hHeld ?h2q2 ?_
    case h2q2 => (intro w' hSw; (try dsimp only at hSw); go_simp; try with_reducible rfl)
    (try simp only [Act.put])
    refine wpAnyT_take (i := 3) (v := ?v3q3) rfl (by kernel_rfl) (fun _ _ _ h => h) (by rfl) hHeld ?h3q3 ?_
    case h3q3 => (intro w' hSw; (try dsimp only at hSw); go_simp; try with_reducible rfl)
    (try simp only [Act.put])
    refine wpAnyT_take (i := 4) (v := ?v4q4) rfl (by kernel_rfl) (fun _ _ _ h => h) (by rfl) hHeld ?h4q4 ?_
    case h4q4 => (intro w' hSw; (try dsimp only at hSw); go_simp; try with_reducible rfl)
    (try simp only [Act.put])
    refine wpAnyT_take (i := 5) (v := ?v5q5) rfl (by kernel_rfl) (fun _ _ _ h => h) (by rfl) hHeld ?h5q5 ?_
    case h5q5 => (intro w' hSw; (try dsimp only at hSw); go_simp; try with_reducible rfl)
    (try simp only [Act.put])
    clear hHeld
    have HB : Hid (Below W0.heap.size W0 W0.drew) := Lib.hid (Below.refl _ _).drew
    refine wpAnyT_threeE (i := 1) (j := 6) (k := 8) (by kernel_rfl) ?_ ?_ ?_
    · refine wpOpE (i := 1) rfl (fun K hK => ?_)
      go_simp
      go_at_call 16
      refine (HVO.out _).mono ?_
      rintro e w1 ⟨rfl, hb1⟩
      have HBN := Lib.hid (bt HB.out (Nat.le_refl _) hb1)
      clear hb1
      clear HB
      have HB := HBN
      clear HBN
      refine hK.out _ _ (fun _ => HX0.out.below HB.out HX0.out.lt) ?_
      clear hK K
      (try simp only [Act.put, List.setIfInBounds_toArray, List.set_cons_zero, List.set_cons_succ])
      refine wpAnyT_twoE (i := 6) (j := 8) (by kernel_rfl) ?_ ?_
      · refine wpOpE (i := 6) rfl (fun K hK => ?_)
        go_simp
        obtain ⟨gm, hgm⟩ : ∃ g, w1.heap.size = g := ⟨_, rfl⟩
        obtain ⟨w2, hw⟩ : ∃ x, w1.alloc (.cells (madeCells #[Value.slice none 0 0] cp) 51) = x := ⟨_, rfl⟩
        have HCN : Hid (CRow w2 W0.heap.size (.slice (some ⟨gm, 0, none⟩) 0 cp) [] []) := Lib.hid (by rw [← hw, ← hgm]; exact crow_nil _ _ HB.out.size (by omega))
        have HBN : Hid (Below W0.heap.size W0 w2) := Lib.hid (by rw [← hw]; exact HB.out.alloc HB.out.size _)
        rw [hgm, hw]
        clear hgm hw
        clear HB
        have HB := HBN
        clear HBN
        have HC := HCN
        clear HCN
        refine hK.out _ _ (fun _ => HX0.out.below HB.out HX0.out.lt) ?_
        clear hK K
        (try simp only [Act.put, List.setIfInBounds_toArray, List.set_cons_zero, List.set_cons_succ])
        have hHeld := HX0.out.below HB.out HX0.out.lt
        refine wpAnyT_take (i := 7) (v := ?v7q6) rfl (by kernel_rfl) (fun _ _ _ h => h) (by rfl) hHeld ?h7q6 ?_
        case h7q6 => (intro w' hSw; (try dsimp only at hSw); go_simp; try with_reducible rfl)
        (try simp only [Act.put, List.setIfInBounds_toArray])
        clear hHeld
        refine wpAnyT_one (i := 8) rfl (by kernel_rfl) (fun K hK => ?_)
        go_simp
        obtain ⟨gf, hgf⟩ : ∃ g, w2.heap.size = g := ⟨_, rfl⟩
        obtain ⟨w3, hw⟩ : ∃ x, w2.alloc (.cells #[.int .i64 0, .slice none 0 0] 74) = x := ⟨_, rfl⟩
        have HFN : Hid (W0.heap.size ≤ gf ∧ Blk w3 gf 74 #[.int .i64 0, .slice none 0 0]) := Lib.hid (by rw [← hw, ← hgf]; exact ⟨HB.out.size, Blk.new _ _ _⟩)
        have HBN : Hid (Below W0.heap.size W0 w3) := Lib.hid (by rw [← hw]; exact HB.out.alloc HB.out.size _)
        have HCN : Hid (CRow w3 W0.heap.size (.slice (some ⟨gm, 0, none⟩) 0 cp) [] []) := Lib.hid (by rw [← hw]; exact HC.out.below ((Below.refl _ _).alloc (Nat.le_refl _) _))
        rw [hgf, hw]
        clear hgf hw
        clear HB
        clear HC
        have HB := HBN
        clear HBN
        have HC := HCN
        clear HCN
        have HF := HFN
        clear HFN
        refine hK.out _ _ (fun _ => HX0.out.below HB.out HX0.out.lt) ?_
        clear hK K
        (try simp only [Act.put, List.setIfInBounds_toArray, List.set_cons_zero, List.set_cons_succ])
        refine wpAnyT_one (i := 9) rfl (by kernel_rfl) (fun K hK => ?_)
        rw [if_pos (by rfl)]
        refine wp_store_row 74 (.tmp 5) (.tmp 18) rfl gf #[.int .i64 ((m : Int) + 1), .slice (some ⟨gm, 0, none⟩) 0 cp] rfl rfl 74 _ HF.out.2 (by kernel_rfl) rfl (by simp [Value.oneCell']) ?_
        refine hK.out _ _ (fun _ => (setRow_other _ _ _ _ (by have := HX0.out.lt; have := HF.out.1; omega)).trans (HX0.out.below HB.out HX0.out.lt)) ?_
        clear hK K
        (try simp only [Act.put, List.setIfInBounds_toArray])
        refine wpAnyT_done (by kernel_rfl) ?_
        go_wp2_with fail
        go_meet
        exact ⟨gf, _, rfl, below_setRowE HB.out HF.out.1, HF.out.1, setRow_heap _ _ _ _ _ _ HF.out.2, HC.out.far HF.out.2 (by decide) (by decide) (fun k _ hk => setRow_other _ _ _ _ hk)⟩
      · refine wpOpE (i := 8) rfl (fun K hK => ?_)
        go_simp
        obtain ⟨gf, hgf⟩ : ∃ g, w1.heap.size = g := ⟨_, rfl⟩
        obtain ⟨w4, hw⟩ : ∃ x, w1.alloc (.cells #[.int .i64 0, .slice none 0 0] 74) = x := ⟨_, rfl⟩
        have HFN : Hid (W0.heap.size ≤ gf ∧ Blk w4 gf 74 #[.int .i64 0, .slice none 0 0]) := Lib.hid (by rw [← hw, ← hgf]; exact ⟨HB.out.size, Blk.new _ _ _⟩)
        have HBN : Hid (Below W0.heap.size W0 w4) := Lib.hid (by rw [← hw]; exact HB.out.alloc HB.out.size _)
        rw [hgf, hw]
        clear hgf hw
        clear HB
        have HB := HBN
        clear HBN
        have HF := HFN
        clear HFN
        refine hK.out _ _ (fun _ => HX0.out.below HB.out HX0.out.lt) ?_
        clear hK K
        (try simp only [Act.put, List.setIfInBounds_toArray, List.set_cons_zero, List.set_cons_succ])
        refine wpAnyT_one (i := 6) rfl (by kernel_rfl) (fun K hK => ?_)
        go_simp
        obtain ⟨gm, hgm⟩ : ∃ g, w4.heap.size = g := ⟨_, rfl⟩
        obtain ⟨w5, hw⟩ : ∃ x, w4.alloc (.cells (madeCells #[Value.slice none 0 0] cp) 51) = x := ⟨_, rfl⟩
        have HCN : Hid (CRow w5 W0.heap.size (.slice (some ⟨gm, 0, none⟩) 0 cp) [] []) := Lib.hid (by rw [← hw, ← hgm]; exact crow_nil _ _ HB.out.size (by omega))
        have HBN : Hid (Below W0.heap.size W0 w5) := Lib.hid (by rw [← hw]; exact HB.out.alloc HB.out.size _)
        have HFN : Hid (W0.heap.size ≤ gf ∧ Blk w5 gf 74 #[.int .i64 0, .slice none 0 0]) := Lib.hid (by rw [← hw]; exact ⟨HF.out.1, HF.out.2.alloc _⟩)
        rw [hgm, hw]
        clear hgm hw
        clear HB
        clear HF
        have HB := HBN
        clear HBN
        have HC := HCN
        clear HCN
        have HF := HFN
        clear HFN
        refine hK.out _ _ (fun _ => HX0.out.below HB.out HX0.out.lt) ?_
        clear hK K
        (try simp only [Act.put, List.setIfInBounds_toArray, List.set_cons_zero, List.set_cons_succ])
        refine wpAnyT_one (i := 7) rfl (by kernel_rfl) (fun K hK => ?_)
        go_simp
        refine hK.out _ _ (fun _ => HX0.out.below HB.out HX0.out.lt) ?_
        clear hK K
        (try simp only [Act.put, List.setIfInBounds_toArray, List.set_cons_zero, List.set_cons_succ])
        refine wpAnyT_one (i := 9) rfl (by kernel_rfl) (fun K hK => ?_)
        rw [if_pos (by rfl)]
        refine wp_store_row 74 (.tmp 5) (.tmp 18) rfl gf #[.int .i64 ((m : Int) + 1), .slice (some ⟨gm, 0, none⟩) 0 cp] rfl rfl 74 _ HF.out.2 (by kernel_rfl) rfl (by simp [Value.oneCell']) ?_
        refine hK.out _ _ (fun _ => (setRow_other _ _ _ _ (by have := HX0.out.lt; have := HF.out.1; omega)).trans (HX0.out.below HB.out HX0.out.lt)) ?_
        clear hK K
        (try simp only [Act.put, List.setIfInBounds_toArray])
        refine wpAnyT_done (by kernel_rfl) ?_
        go_wp2_with fail
        go_meet
        exact ⟨gf, _, rfl, below_setRowE HB.out HF.out.1, HF.out.1, setRow_heap _ _ _ _ _ _ HF.out.2, HC.out.far HF.out.2 (by decide) (by decide) (fun k _ hk => setRow_other _ _ _ _ hk)⟩
    · refine wpOpE (i := 6) rfl (fun K hK => ?_)
      go_simp
      obtain ⟨gm, hgm⟩ : ∃ g, W0.heap.size = g := ⟨_, rfl⟩
      obtain ⟨w6, hw⟩ : ∃ x, (W0.alloc (.cells (madeCells #[Value.slice none 0 0] cp) 51)).drew = x := ⟨_, rfl⟩
      have HCN : Hid (CRow w6 W0.heap.size (.slice (some ⟨gm, 0, none⟩) 0 cp) [] []) := Lib.hid (by rw [← hw, ← hgm]; exact (crow_nil _ _ (Nat.le_refl _) (by omega)).below (Below.refl _ _).drew)
      have HBN : Hid (Below W0.heap.size W0 w6) := Lib.hid (by rw [← hw]; exact ((Below.refl _ _).alloc (Nat.le_refl _) _).drew)
      rw [hgm, hw]
      clear hgm hw
      clear HB
      have HB := HBN
      clear HBN
      have HC := HCN
      clear HCN
      refine hK.out _ _ (fun _ => HX0.out.below HB.out HX0.out.lt) ?_
      clear hK K
      (try simp only [Act.put, List.setIfInBounds_toArray, List.set_cons_zero, List.set_cons_succ])
      refine wpAnyT_twoE (i := 1) (j := 8) (by kernel_rfl) ?_ ?_
      · refine wpOpE (i := 1) rfl (fun K hK => ?_)
        go_simp
        go_at_call 16
        refine (HVO.out _).mono ?_
        rintro e w7 ⟨rfl, hb1⟩
        have HBN := Lib.hid (bt HB.out (Nat.le_refl _) hb1)
        have HCN := Lib.hid (HC.out.below hb1)
        clear hb1
        clear HB
        clear HC
        have HB := HBN
        clear HBN
        have HC := HCN
        clear HCN
        refine hK.out _ _ (fun _ => HX0.out.below HB.out HX0.out.lt) ?_
        clear hK K
        (try simp only [Act.put, List.setIfInBounds_toArray, List.set_cons_zero, List.set_cons_succ])
        have hHeld := HX0.out.below HB.out HX0.out.lt
        refine wpAnyT_take (i := 7) (v := ?v7q7) rfl (by kernel_rfl) (fun _ _ _ h => h) (by rfl) hHeld ?h7q7 ?_
        case h7q7 => (intro w' hSw; (try dsimp only at hSw); go_simp; try with_reducible rfl)
        (try simp only [Act.put, List.setIfInBounds_toArray])
        clear hHeld
        refine wpAnyT_one (i := 8) rfl (by kernel_rfl) (fun K hK => ?_)
        go_simp
        obtain ⟨gf, hgf⟩ : ∃ g, w7.heap.size = g := ⟨_, rfl⟩
        obtain ⟨w8, hw⟩ : ∃ x, w7.alloc (.cells #[.int .i64 0, .slice none 0 0] 74) = x := ⟨_, rfl⟩
        have HFN : Hid (W0.heap.size ≤ gf ∧ Blk w8 gf 74 #[.int .i64 0, .slice none 0 0]) := Lib.hid (by rw [← hw, ← hgf]; exact ⟨HB.out.size, Blk.new _ _ _⟩)
        have HBN : Hid (Below W0.heap.size W0 w8) := Lib.hid (by rw [← hw]; exact HB.out.alloc HB.out.size _)
        have HCN : Hid (CRow w8 W0.heap.size (.slice (some ⟨gm, 0, none⟩) 0 cp) [] []) := Lib.hid (by rw [← hw]; exact HC.out.below ((Below.refl _ _).alloc (Nat.le_refl _) _))
        rw [hgf, hw]
        clear hgf hw
        clear HB
        clear HC
        have HB := HBN
        clear HBN
        have HC := HCN
        clear HCN
        have HF := HFN
        clear HFN
        refine hK.out _ _ (fun _ => HX0.out.below HB.out HX0.out.lt) ?_
        clear hK K
        (try simp only [Act.put, List.setIfInBounds_toArray, List.set_cons_zero, List.set_cons_succ])
        refine wpAnyT_one (i := 9) rfl (by kernel_rfl) (fun K hK => ?_)
        rw [if_pos (by rfl)]
        refine wp_store_row 74 (.tmp 5) (.tmp 18) rfl gf #[.int .i64 ((m : Int) + 1), .slice (some ⟨gm, 0, none⟩) 0 cp] rfl rfl 74 _ HF.out.2 (by kernel_rfl) rfl (by simp [Value.oneCell']) ?_
        refine hK.out _ _ (fun _ => (setRow_other _ _ _ _ (by have := HX0.out.lt; have := HF.out.1; omega)).trans (HX0.out.below HB.out HX0.out.lt)) ?_
        clear hK K
        (try simp only [Act.put, List.setIfInBounds_toArray])
        refine wpAnyT_done (by kernel_rfl) ?_
        go_wp2_with fail
        go_meet
        exact ⟨gf, _, rfl, below_setRowE HB.out HF.out.1, HF.out.1, setRow_heap _ _ _ _ _ _ HF.out.2, HC.out.far HF.out.2 (by decide) (by decide) (fun k _ hk => setRow_other _ _ _ _ hk)⟩
      · refine wpOpE (i := 8) rfl (fun K hK => ?_)
        go_simp
        obtain ⟨gf, hgf⟩ : ∃ g, w6.heap.size = g := ⟨_, rfl⟩
        obtain ⟨w9, hw⟩ : ∃ x, w6.alloc (.cells #[.int .i64 0, .slice none 0 0] 74) = x := ⟨_, rfl⟩
        have HFN : Hid (W0.heap.size ≤ gf ∧ Blk w9 gf 74 #[.int .i64 0, .slice none 0 0]) := Lib.hid (by rw [← hw, ← hgf]; exact ⟨HB.out.size, Blk.new _ _ _⟩)
        have HBN : Hid (Below W0.heap.size W0 w9) := Lib.hid (by rw [← hw]; exact HB.out.alloc HB.out.size _)
        have HCN : Hid (CRow w9 W0.heap.size (.slice (some ⟨gm, 0, none⟩) 0 cp) [] []) := Lib.hid (by rw [← hw]; exact HC.out.below ((Below.refl _ _).alloc (Nat.le_refl _) _))
        rw [hgf, hw]
        clear hgf hw
        clear HB
        clear HC
        have HB := HBN
        clear HBN
        have HC := HCN
        clear HCN
        have HF := HFN
        clear HFN
        refine hK.out _ _ (fun _ => HX0.out.below HB.out HX0.out.lt) ?_
        clear hK K
        (try simp only [Act.put, List.setIfInBounds_toArray, List.set_cons_zero, List.set_cons_succ])
        refine wpAnyT_one (i := 1) rfl (by kernel_rfl) (fun K hK => ?_)
        go_simp
        go_at_call 16
        refine (HVO.out _).mono ?_
        rintro e w10 ⟨rfl, hb1⟩
        have HBN := Lib.hid (bt HB.out (Nat.le_refl _) hb1)
        have HCN := Lib.hid (HC.out.below hb1)
        have HFN := Lib.hid (And.intro HF.out.1 (HF.out.2.below hb1 HF.out.2.lt))
        clear hb1
        clear HB
        clear HC
        clear HF
        have HB := HBN
        clear HBN
        have HC := HCN
        clear HCN
        have HF := HFN
        clear HFN
        refine hK.out _ _ (fun _ => HX0.out.below HB.out HX0.out.lt) ?_
        clear hK K
        (try simp only [Act.put, List.setIfInBounds_toArray, List.set_cons_zero, List.set_cons_succ])
        refine wpAnyT_one (i := 7) rfl (by kernel_rfl) (fun K hK => ?_)
        go_simp
        refine hK.out _ _ (fun _ => HX0.out.below HB.out HX0.out.lt) ?_
        clear hK K
        (try simp only [Act.put, List.setIfInBounds_toArray, List.set_cons_zero, List.set_cons_succ])
        refine wpAnyT_one (i := 9) rfl (by kernel_rfl) (fun K hK => ?_)
        rw [if_pos (by rfl)]
        refine wp_store_row 74 (.tmp 5) (.tmp 18) rfl gf #[.int .i64 ((m : Int) + 1), .slice (some ⟨gm, 0, none⟩) 0 cp] rfl rfl 74 _ HF.out.2 (by kernel_rfl) rfl (by simp [Value.oneCell']) ?_
        refine hK.out _ _ (fun _ => (setRow_other _ _ _ _ (by have := HX0.out.lt; have := HF.out.1; omega)).trans (HX0.out.below HB.out HX0.out.lt)) ?_
        clear hK K
        (try simp only [Act.put, List.setIfInBounds_toArray])
        refine wpAnyT_done (by kernel_rfl) ?_
        go_wp2_with fail
        go_meet
        exact ⟨gf, _, rfl, below_setRowE HB.out HF.out.1, HF.out.1, setRow_heap _ _ _ _ _ _ HF.out.2, HC.out.far HF.out.2 (by decide) (by decide) (fun k _ hk => setRow_other _ _ _ _ hk)⟩
    · refine wpOpE (i := 8) rfl (fun K hK => ?_)
      go_simp
      obtain ⟨gf, hgf⟩ : ∃ g, W0.heap.size = g := ⟨_, rfl⟩
      obtain ⟨w11, hw⟩ : ∃ x, (W0.alloc (.cells #[.int .i64 0, .slice none 0 0] 74)).drew = x := ⟨_, rfl⟩
      have HFN : Hid (W0.heap.size ≤ gf ∧ Blk w11 gf 74 #[.int .i64 0, .slice none 0 0]) := Lib.hid (by rw [← hw, ← hgf]; exact ⟨Nat.le_refl _, (Blk.new _ _ _).drew⟩)
      have HBN : Hid (Below W0.heap.size W0 w11) := Lib.hid (by rw [← hw]; exact ((Below.refl _ _).alloc (Nat.le_refl _) _).drew)
      rw [hgf, hw]
      clear hgf hw
      clear HB
      have HB := HBN
      clear HBN
      have HF := HFN
      clear HFN
      refine hK.out _ _ (fun _ => HX0.out.below HB.out HX0.out.lt) ?_
      clear hK K
      (try simp only [Act.put, List.setIfInBounds_toArray, List.set_cons_zero, List.set_cons_succ])
      refine wpAnyT_twoE (i := 1) (j := 6) (by kernel_rfl) ?_ ?_
      · refine wpOpE (i := 1) rfl (fun K hK => ?_)
        go_simp
        go_at_call 16
        refine (HVO.out _).mono ?_
        rintro e w12 ⟨rfl, hb1⟩
        have HBN := Lib.hid (bt HB.out (Nat.le_refl _) hb1)
        have HFN := Lib.hid (And.intro HF.out.1 (HF.out.2.below hb1 HF.out.2.lt))
        clear hb1
        clear HB
        clear HF
        have HB := HBN
        clear HBN
        have HF := HFN
        clear HFN
        refine hK.out _ _ (fun _ => HX0.out.below HB.out HX0.out.lt) ?_
        clear hK K
        (try simp only [Act.put, List.setIfInBounds_toArray, List.set_cons_zero, List.set_cons_succ])
        refine wpAnyT_one (i := 6) rfl (by kernel_rfl) (fun K hK => ?_)
        go_simp
        obtain ⟨gm, hgm⟩ : ∃ g, w12.heap.size = g := ⟨_, rfl⟩
        obtain ⟨w13, hw⟩ : ∃ x, w12.alloc (.cells (madeCells #[Value.slice none 0 0] cp) 51) = x := ⟨_, rfl⟩
        have HCN : Hid (CRow w13 W0.heap.size (.slice (some ⟨gm, 0, none⟩) 0 cp) [] []) := Lib.hid (by rw [← hw, ← hgm]; exact crow_nil _ _ HB.out.size (by omega))
        have HBN : Hid (Below W0.heap.size W0 w13) := Lib.hid (by rw [← hw]; exact HB.out.alloc HB.out.size _)
        have HFN : Hid (W0.heap.size ≤ gf ∧ Blk w13 gf 74 #[.int .i64 0, .slice none 0 0]) := Lib.hid (by rw [← hw]; exact ⟨HF.out.1, HF.out.2.alloc _⟩)
        rw [hgm, hw]
        clear hgm hw
        clear HB
        clear HF
        have HB := HBN
        clear HBN
        have HC := HCN
        clear HCN
        have HF := HFN
        clear HFN
        refine hK.out _ _ (fun _ => HX0.out.below HB.out HX0.out.lt) ?_
        clear hK K
        (try simp only [Act.put, List.setIfInBounds_toArray, List.set_cons_zero, List.set_cons_succ])
        refine wpAnyT_one (i := 7) rfl (by kernel_rfl) (fun K hK => ?_)
        go_simp
        refine hK.out _ _ (fun _ => HX0.out.below HB.out HX0.out.lt) ?_
        clear hK K
        (try simp only [Act.put, List.setIfInBounds_toArray, List.set_cons_zero, List.set_cons_succ])
        refine wpAnyT_one (i := 9) rfl (by kernel_rfl) (fun K hK => ?_)
        rw [if_pos (by rfl)]
        refine wp_store_row 74 (.tmp 5) (.tmp 18) rfl gf #[.int .i64 ((m : Int) + 1), .slice (some ⟨gm, 0, none⟩) 0 cp] rfl rfl 74 _ HF.out.2 (by kernel_rfl) rfl (by simp [Value.oneCell']) ?_
        refine hK.out _ _ (fun _ => (setRow_other _ _ _ _ (by have := HX0.out.lt; have := HF.out.1; omega)).trans (HX0.out.below HB.out HX0.out.lt)) ?_
        clear hK K
        (try simp only [Act.put, List.setIfInBounds_toArray])
        refine wpAnyT_done (by kernel_rfl) ?_
        go_wp2_with fail
        go_meet
        exact ⟨gf, _, rfl, below_setRowE HB.out HF.out.1, HF.out.1, setRow_heap _ _ _ _ _ _ HF.out.2, HC.out.far HF.out.2 (by decide) (by decide) (fun k _ hk => setRow_other _ _ _ _ hk)⟩
      · refine wpOpE (i := 6) rfl (fun K hK => ?_)
        go_simp
        obtain ⟨gm, hgm⟩ : ∃ g, w11.heap.size = g := ⟨_, rfl⟩
        obtain ⟨w14, hw⟩ : ∃ x, w11.alloc (.cells (madeCells #[Value.slice none 0 0] cp) 51) = x := ⟨_, rfl⟩
        have HCN : Hid (CRow w14 W0.heap.size (.slice (some ⟨gm, 0, none⟩) 0 cp) [] []) := Lib.hid (by rw [← hw, ← hgm]; exact crow_nil _ _ HB.out.size (by omega))
        have HBN : Hid (Below W0.heap.size W0 w14) := Lib.hid (by rw [← hw]; exact HB.out.alloc HB.out.size _)
        have HFN : Hid (W0.heap.size ≤ gf ∧ Blk w14 gf 74 #[.int .i64 0, .slice none 0 0]) := Lib.hid (by rw [← hw]; exact ⟨HF.out.1, HF.out.2.alloc _⟩)
        rw [hgm, hw]
        clear hgm hw
        clear HB
        clear HF
        have HB := HBN
        clear HBN
        have HC := HCN
        clear HCN
        have HF := HFN
        clear HFN
        refine hK.out _ _ (fun _ => HX0.out.below HB.out HX0.out.lt) ?_
        clear hK K
        (try simp only [Act.put, List.setIfInBounds_toArray, List.set_cons_zero, List.set_cons_succ])
        refine wpAnyT_one (i := 1) rfl (by kernel_rfl) (fun K hK => ?_)
        go_simp
        go_at_call 16
        refine (HVO.out _).mono ?_
        rintro e w15 ⟨rfl, hb1⟩
        have HBN := Lib.hid (bt HB.out (Nat.le_refl _) hb1)
        have HCN := Lib.hid (HC.out.below hb1)
        have HFN := Lib.hid (And.intro HF.out.1 (HF.out.2.below hb1 HF.out.2.lt))
        clear hb1
        clear HB
        clear HC
        clear HF
        have HB := HBN
        clear HBN
        have HC := HCN
        clear HCN
        have HF := HFN
        clear HFN
        refine hK.out _ _ (fun _ => HX0.out.below HB.out HX0.out.lt) ?_
        clear hK K
        (try simp only [Act.put, List.setIfInBounds_toArray, List.set_cons_zero, List.set_cons_succ])
        refine wpAnyT_one (i := 7) rfl (by kernel_rfl) (fun K hK => ?_)
        go_simp
        refine hK.out _ _ (fun _ => HX0.out.below HB.out HX0.out.lt) ?_
        clear hK K
        (try simp only [Act.put, List.setIfInBounds_toArray, List.set_cons_zero, List.set_cons_succ])
        refine wpAnyT_one (i := 9) rfl (by kernel_rfl) (fun K hK => ?_)
        rw [if_pos (by rfl)]
        refine wp_store_row 74 (.tmp 5) (.tmp 18) rfl gf #[.int .i64 ((m : Int) + 1), .slice (some ⟨gm, 0, none⟩) 0 cp] rfl rfl 74 _ HF.out.2 (by kernel_rfl) rfl (by simp [Value.oneCell']) ?_
        refine hK.out _ _ (fun _ => (setRow_other _ _ _ _ (by have := HX0.out.lt; have := HF.out.1; omega)).trans (HX0.out.below HB.out HX0.out.lt)) ?_
        clear hK K
        (try simp only [Act.put, List.setIfInBounds_toArray])
        refine wpAnyT_done (by kernel_rfl) ?_
        go_wp2_with fail
        go_meet
        exact ⟨gf, _, rfl, below_setRowE HB.out HF.out.1, HF.out.1, setRow_heap _ _ _ _ _ _ HF.out.2, HC.out.far HF.out.2 (by decide) (by decide) (fun k _ hk => setRow_other _ _ _ _ hk)⟩
  case rest =>
    obtain ⟨gf, v, rfl, hb, hgf, hbf, hcr⟩ := hcut
    have HB := Lib.hid hb
    have HGF := Lib.hid hgf
    have HBC := Lib.hid hb
    have HP := Lib.hid (put_any (wc.alloc (.cells #[.int .i64 (-1)] 3)) W0.heap.size gf ((m : Int) + 1) v (.slice (some ⟨wc.heap.size, 0, none⟩) 1 1) [] [] [-1] (hbf.alloc _) hgf (hcr.below ((Below.refl _ _).alloc (Nat.le_refl _) _)) (blk_roweE (zs := [(-1 : Int)]) lenI (Blk.new wc 3 _) (by simp [maxLen])) (by simp) (by simp))
    clear hb hgf hbf hcr
    have hl0 : litC 0 = 1 := by decide
    have hlm : IntKind.i64.wrap (-1) = -1 := by decide
    go_upto_region 3 with (first
      | (go_at_call 32; refine (literal_any _ 0 (by omega) (by omega)).mono ?_; rintro e w2 ⟨rfl, hw2⟩; rw [hw2, hl0]; clear hw2 w2)
      | (go_at_call 31; refine HP.out.mono ?_; rintro e w3 ⟨rfl, hb3, v3, u3, hk3, hc3⟩; have HB3 := Lib.hid hb3; have HK3 := Lib.hid hk3; have HC3 := Lib.hid hc3; clear hb3 hk3 hc3))
    clear HP HB
    have HB3W : Hid (Below W0.heap.size W0 w3) := Lib.hid ((HBC.out.alloc HBC.out.size _).trans HB3.out)
    have HPUT := Lib.hid (fun (wx : World) (v : Value) (us : List Value) (F : List (List Int)) (xs : List Int) (lv : Value) (h1 : Blk wx gf 74 #[.int .i64 ((m : Int) + 1), v]) (h2 : CRow wx W0.heap.size v us F) (h3 : RowE 1 encI wx lv xs) (h4 : F.length ≤ 400000) (h5 : xs.length ≤ 1000) => put_any wx W0.heap.size gf ((m : Int) + 1) v lv us F xs h1 HGF.out h2 h3 h4 h5)
    go_wp2
    go_loopg [25] n (fun k i wx => ∃ (q : Nat) (v : Value) (us : List Value), q ≤ n ∧ k = n - q ∧ i = .int .i64 q ∧ Blk wx gf 74 #[.int .i64 ((m : Int) + 1), v] ∧ CRow wx W0.heap.size v us (formC (zs.take q)) ∧ Below W0.heap.size W0 wx)
    case atStart => exact ⟨0, v3, _, Nat.zero_le _, rfl, rfl, HK3.out, HC3.out, HB3W.out⟩
    case round =>
      obtain ⟨q, v, us, hq, hgk, rfl, hbf, hcr, hbw⟩ := hrel
      subst hgk
      clear HB3 HK3 HC3 HB3W
      have HBF := Lib.hid hbf
      have HCR := Lib.hid hcr
      have HBW := Lib.hid hbw
      clear hbf hcr hbw
      by_cases hlt : q < n
      · obtain ⟨z, hz⟩ : ∃ z, zs[q]? = some z := ⟨_, List.getElem?_eq_getElem (by rw [HN.out]; exact hlt)⟩
        obtain ⟨b, off, e, hb, hcell⟩ := HRUN.out q z hz
        subst e
        have hzr := HZ.out z (List.mem_of_getElem? hz)
        have HTK : Hid (formC (zs.take (q + 1)) = formC (zs.take q) ++ [[-(litC z.1), litC z.2.1], [-(litC z.1), litC z.2.2], [litC z.1, -(litC z.2.1), -(litC z.2.2)]]) := Lib.hid (by rw [List.take_add_one, hz]; exact formC_snoc _ _)
        have HLN : Hid ((formC (zs.take q)).length ≤ 300000) := Lib.hid (by rw [formC_len, List.length_take]; omega)
        obtain ⟨z0, z1, z2⟩ := z
        obtain ⟨⟨hl0, hl1⟩, ⟨hm2, hm3⟩, hm4, hm5⟩ := hzr
        simp only at hl0 hl1 hm2 hm3 hm4 hm5
        have hbl := bt HB0.out (Nat.le_refl _) HBW.out
        have h0 := (hbl.cell (p := ⟨b, off + (q * 3 + 0), none⟩) hb).trans (hcell 0 _ rfl)
        have h1 := (hbl.cell (p := ⟨b, off + (q * 3 + 1), none⟩) hb).trans (hcell 1 _ rfl)
        have h2 := (hbl.cell (p := ⟨b, off + (q * 3 + 2), none⟩) hb).trans (hcell 2 _ rfl)
        simp only [Nat.add_zero, ← Nat.add_assoc] at h0 h1 h2
        have HXA : Hid (Below wr.heap.size wr (wr.alloc (.cells #[.int .i64 z0, .int .i64 z1, .int .i64 z2] 45))) := Lib.hid ((Below.refl _ _).alloc (Nat.le_refl _) _)
        have hnb : Blk (wr.alloc (.cells #[.int .i64 z0, .int .i64 z1, .int .i64 z2] 45)) wr.heap.size 45 #[.int .i64 z0, .int .i64 z1, .int .i64 z2] := Blk.new wr _ _
        have y0 := hnb.cell 0
        have y1 := hnb.cell 1
        have y2 := hnb.cell 2
        simp only [List.getElem?_toArray, List.getElem?_cons_zero, List.getElem?_cons_succ] at y0 y1 y2
        have HC0 := Lib.hid (fun wx => literal_any wx z0 hl0 (by omega))
        have HC1 := Lib.hid (fun wx => literal_any wx z1 hm2 (by omega))
        have HC2 := Lib.hid (fun wx => literal_any wx z2 hm4 (by omega))
        have hw0 : IntKind.i64.wrap (-(litC z0)) = -(litC z0) := i64_in (by unfold litC; split <;> omega)
        have hw1' : IntKind.i64.wrap (-(litC z1)) = -(litC z1) := i64_in (by unfold litC; split <;> omega)
        have hw2' : IntKind.i64.wrap (-(litC z2)) = -(litC z2) := i64_in (by unfold litC; split <;> omega)
        generalize litC z0 = x0 at *
        generalize litC z1 = x1 at *
        generalize litC z2 = x2 at *
        clear hcell hz hbl hnb
        go_upto_region 6 with (fail)
        go_quiet (first | (go_at_call_of 32 z0; exact Calls.quiet_of_same (HC0.out _)) | (go_at_call_of 32 z1; exact Calls.quiet_of_same (HC1.out _)) | (go_at_call_of 32 z2; exact Calls.quiet_of_same (HC2.out _)))
        have HX1 : Hid (∀ wx, Below wr.heap.size wr wx → Blk wx gf 74 #[.int .i64 ((m : Int) + 1), v] ∧ CRow wx W0.heap.size v us (formC (zs.take q))) := Lib.hid (fun wx hx => ⟨HBF.out.below hx HBF.out.lt, HCR.out.below hx⟩)
        have HBQ : Hid (∀ k, Below W0.heap.size W0 ((wr.alloc (.cells #[.int .i64 z0, .int .i64 z1, .int .i64 z2] 45)).drewN k)) := Lib.hid (fun k => below_drewN (HBW.out.alloc HBW.out.size _) k)
        go_upto_region 8 with (go_at_call 31; go_loud (refine (HPUT.out _ v us (formC (zs.take q)) [-x0, x1] _ (HX1.out _ ((below_drewN ((Below.refl _ _).alloc (Nat.le_refl _) _) _).alloc (by simp) _)).1 (HX1.out _ ((below_drewN ((Below.refl _ _).alloc (Nat.le_refl _) _) _).alloc (by simp) _)).2 (row_new _ _ (by simp) [-x0, x1] (by simp)) (by have := HLN.out; omega) (by simp)).mono ?_; rintro e w4 ⟨rfl, hb4, v4, u4, hk4, hc4⟩; have HB4 := Lib.hid (((HBQ.out _).alloc (HBQ.out _).size _).trans hb4); have HK4 := Lib.hid hk4; have HC4 := Lib.hid hc4; clear hb4 hk4 hc4))
        go_upto_region 9 with (go_at_call 31; go_loud (refine (HPUT.out _ v4 _ _ [-x0, x2] _ (HK4.out.alloc _) (HC4.out.below ((Below.refl _ _).alloc (Nat.le_refl _) _)) (row_new _ _ (by first | rfl | simp) [-x0, x2] (by simp)) (by have := HLN.out; rw [List.length_append]; simp; omega) (by simp)).mono ?_; rintro e w5 ⟨rfl, hb5, v5, u5, hk5, hc5⟩; have HB5 := Lib.hid ((HB4.out.alloc HB4.out.size _).trans hb5); have HK5 := Lib.hid hk5; have HC5 := Lib.hid hc5; clear hb5 hk5 hc5 HK4 HC4 HB4))
        go_upto_region 10 with (go_at_call 31; go_loud (refine (HPUT.out _ v5 _ _ [x0, -x1, -x2] _ (HK5.out.alloc _) (HC5.out.below ((Below.refl _ _).alloc (Nat.le_refl _) _)) (row_new _ _ (by first | rfl | simp) [x0, -x1, -x2] (by simp)) (by have := HLN.out; rw [List.length_append, List.length_append]; simp; omega) (by simp)).mono ?_; rintro e w6 ⟨rfl, hb6, v6, u6, hk6, hc6⟩; have HB6 := Lib.hid ((HB5.out.alloc HB5.out.size _).trans hb6); have HK6 := Lib.hid hk6; have HC6 := Lib.hid hc6; clear hb6 hk6 hc6 HK5 HC5 HB5))
        go_wp2
        go_roundg (n - (q + 1))
        case measure => omega
        case rel => exact ⟨q + 1, v6, _, by omega, rfl, by go_num, HK6.out, by rw [HTK.out]; simpa using HC6.out, HB6.out⟩
      · have hqe : n = q := by omega
        subst hqe
        have HFC : Hid (zs.take n = zs) := Lib.hid (List.take_of_length_le (by rw [HN.out]; exact Nat.le_refl _))
        obtain ⟨vA, vc, hve⟩ := own_slice_k HCR.out.own
        subst hve
        have f0 := HBF.out.cell 0
        have f1 := HBF.out.cell 1
        have H1W := Lib.hid (H1.out.below HBW.out H1.out.lt)
        have r0 := H1W.out.cell 0
        have r1 := H1W.out.cell 1
        have rf0 := H1W.out.frozen 0
        have rf1 := H1W.out.frozen 1
        have rl := H1W.out.lt
        simp only [List.getElem?_toArray, List.getElem?_cons_zero, List.getElem?_cons_succ] at f0 f1 r0 r1
        clear hlt hq
        go_wp2
        have hw9 : Blk ((wr.setCell ⟨w.heap.size + 1, 0, none⟩ (.int .i64 ((m : Int) + 1))).setCell ⟨w.heap.size + 1, 1, none⟩ (.slice vA us.length vc)) (w.heap.size + 1) 34 #[.int .i64 ((m : Int) + 1), .slice vA us.length vc] := by
          have := (H1W.out.set_ 0 (.int .i64 ((m : Int) + 1))).set_ 1 (.slice vA us.length vc)
          simpa using this
        refine bodyPost_ret (results_cell_row (fn := Try.f13) rfl _ _ (w.heap.size + 1) 34 #[.int .i64 ((m : Int) + 1), .slice vA us.length vc] (0, 0) _ rfl hw9 Try.underlying34 rfl (by kernel_rfl)) rfl ?_
        have hcr := HCR.out
        rw [HFC.out] at hcr
        refine ⟨((bt HB0.out (Nat.le_refl _) HBW.out).setCell (by simp) _).setCell (by simp) _, _, us, rfl, (hcr.far H1W.out (by decide) (by decide) (fun k _ hk => (Below.heap_setCell _ _ _ _ hk).trans (Below.heap_setCell _ _ _ _ hk))).base HB0.out.size⟩
end Go.Proofs.Ytbgdhfnfbahdhab

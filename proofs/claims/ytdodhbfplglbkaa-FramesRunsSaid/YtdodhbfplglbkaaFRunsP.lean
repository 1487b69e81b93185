/- PROVED HERE: FramesRuns: for every circuit, number the statement's Go function returns true and leaves its arguments as they were. No condition. -/
import Derived.Test.YtdodhbfplglbkaaFParts
import Derived.Test.YtdodhbfplglbkaaArgS
namespace Go.Proofs.Ytdodhbfplglbkaa
open Go.RowKit

/-- An append of what a call hands out, and the store into the formula's box. -/
theorem du_app {W5 wr w1 w2 : World} {B gf : Nat} {vn : Int} {v v2 : Value} {us us2 : List Value} {F F2 : List (List Int)} (hb : Below B W5 wr) (hB : B ≤ wr.heap.size) (hgf : B ≤ gf) (hf : Blk wr gf 34 #[.int .i64 vn, v]) (hd : DRow wr B v us F) (hb1 : Below wr.heap.size wr w1) (hd2 : DRow w1 wr.heap.size v2 us2 F2) {v3 : Value}
    (hg : w1.grownBy w2 v.ownBlock) (ho : w2.ownsRow B 81 1 v3 (us.length + us2.length) (us ++ us2)) :
    (w2.cell? ⟨gf, 1, none⟩ = some v ∧ w2.frozen? ⟨gf, 1, none⟩ = false ∧ gf < w2.heap.size) ∧ (Below B W5 w2 ∧ Blk w2 gf 34 #[.int .i64 vn, v]) ∧ Below B W5 (w2.setCell ⟨gf, 1, none⟩ v3) ∧ Blk (w2.setCell ⟨gf, 1, none⟩ v3) gf 34 #[.int .i64 vn, v3] ∧ DRow (w2.setCell ⟨gf, 1, none⟩ v3) B v3 (us ++ us2) (F ++ F2) := by
  have h1 : Blk w2 gf 34 #[.int .i64 vn, v] := Blk.grown (hf.below hb1 hf.lt) hg (Ne.symm (own_blk_ne (own_below hd.own hb1) (hf.below hb1 hf.lt) (by decide)))
  have h3 : Below B W5 w2 := (hb.trans (hb1.mono hB)).grown hg (Nat.le_trans hB hb1.size) (fun k hk => (hd.own.lt k hk).1)
  have h4 := DRow.app hd hb1 hB hd2.ul hd2.each hg ho
  exact ⟨⟨by simpa using h1.cell 1, h1.frozen 1, h1.lt⟩, ⟨h3, h1⟩, h3.setCell hgf _, by simpa using h1.set_ 1 v3, h4.far h1 (by decide) (by decide) (fun k _ hk => Below.heap_setCell _ _ _ _ hk)⟩
theorem DRow.one {w : World} {B : Nat} {v : Value} {us : List Value} {F : List (List Int)} (h : DRow w B v us F) : ∀ u ∈ us, u.oneCell' = true := fun u hu => by
  obtain ⟨i, hi⟩ := List.getElem?_of_mem hu
  have hil := (List.getElem?_eq_some_iff.1 hi).1
  obtain ⟨A, c, e⟩ := own_slice_k (h.each i u _ hi (List.getElem?_eq_getElem (by rw [← h.ul]; exact hil)))
  rw [e]
  rfl
theorem DRow.row {w : World} {B : Nat} {v : Value} {us : List Value} {F : List (List Int)} (h : DRow w B v us F) : RowE 1 encV w v us := own_rowe lenV (by rw [flat_vals]; exact h.own)

/-- The document's formula ahead of a step. -/
def docT (C : Circ) : Nat → List (List Int)
  | 0 => [-1] :: resT C 0
  | k + 1 => runT C k

set_option maxHeartbeats 20000000 in
set_option maxRecDepth 100000 in
theorem rfRun_any (w : World) (V : CV) (C : Circ) (n : Int) (h : C.In w V) (ok : C.Ok) (htn : ∀ s ∈ C.comments, s.size ≤ maxLen) :
    Calls Try.prog 36 #[V.val C.max, .int .i64 n] w fun e w' => Below w.heap.size w w' ∧ ∃ v us, e = .returned (.tuple #[.agg #[.int .i64 (runN C n), v], .int .i64 (fitR C n)]) ∧ DRow w' w.heap.size v us (runF C n) := by
  obtain ⟨W0, hW0⟩ : ∃ W0, (w.alloc (.cells (V.cells C.max) 29)).alloc (.cells #[.int .i64 0, .slice none 0 0] 34) = W0 := ⟨_, rfl⟩
  have HB0 : Hid (Below w.heap.size w W0) := Lib.hid (by rw [← hW0]; exact ((Below.refl w.heap.size w).alloc (Nat.le_refl _) _).alloc (by simp) _)
  have HX0 : Hid (Blk W0 w.heap.size 29 (V.cells C.max)) := Lib.hid (by rw [← hW0]; exact (Blk.new w _ _).alloc _)
  have H1 : Hid (Blk W0 (w.heap.size + 1) 34 #[.int .i64 0, .slice none 0 0]) := Lib.hid (by
    rw [← hW0]
    have := Blk.new (w.alloc (.cells (V.cells C.max) 29)) 34 #[.int .i64 0, .slice none 0 0]
    simpa using this)
  have HS0 : Hid (W0.heap.size = w.heap.size + 1 + 1) := Lib.hid (by rw [← hW0]; simp)
  have HW0 := Lib.hid hW0
  have HIN := Lib.hid (h.below HB0.out)
  have HVA := Lib.hid (rfVars_any W0 V C n HIN.out ok htn)
  have HBX : Hid (W0.heap[w.heap.size]? = some (.cells (V.cells C.max) 29 (0, 0))) := Lib.hid HX0.out
  obtain ⟨f, hf⟩ : ∃ f, fitN C n = f := ⟨_, rfl⟩
  rw [hf] at HVA
  clear hW0 h ok htn
  by_cases h0 : f = 0
  · subst h0
    have hz : (checkR C).2 = 0 := by
      unfold fitN at hf
      by_cases h1 : (checkR C).2 = 0
      · exact h1
      · rw [if_pos h1] at hf; exact hf
    have hr := right_of hz
    have hs : fitS C.max n = 0 := by unfold fitN at hf; rw [if_neg (by rw [hz]; simp)] at hf; exact hf
    obtain ⟨s1, s2, s3⟩ := fitS_ok hs
    have evf : varsFT C n = 1 + n * C.max := if_pos hf
    rw [evf] at HVA
    have efr : fitR C n = if 524288 < cntF C n then 6 else 0 := by unfold fitR; rw [if_neg (by rw [hf]; simp)]
    have HF0 := Lib.hid (fun (wx : World) (hb : Below W0.heap.size W0 wx) => rfFirst0_any wx V C (HIN.out.below hb) hz)
    have HST := Lib.hid (fun (wx : World) (hb : Below W0.heap.size W0 wx) (t : Int) (h2 : 0 ≤ t) (h3 : t ≤ 511) => rfStep0_any wx V C t (HIN.out.below hb) hz h2 (by omega))
    have HNX := Lib.hid (fun (wx : World) (hb : Below W0.heap.size W0 wx) (t : Int) (h2 : 0 ≤ t) (h3 : t ≤ 511) => rfNext0_any wx V C t (HIN.out.below hb) hz h2 (by omega))
    have hrl : (resT C 0).length ≤ 16384 := by have := resC_len C.max 0 C.latches; have := hr.nl; unfold resT; omega
    obtain ⟨AA, na, ca, ea⟩ := sl_formP HIN.out.a
    obtain ⟨AL, nl, cl, el⟩ := sl_formP HIN.out.l
    obtain ⟨AC, nc, cc, ec⟩ := sl_formP HIN.out.c
    have ha : na = C.ands.length := by obtain ⟨A, c, e, _⟩ := HIN.out.a; rw [ea] at e; injection e with _ e _
    have hl : nl = C.latches.length := by obtain ⟨A, c, e, _⟩ := HIN.out.l; rw [el] at e; injection e with _ e _
    have hc : nc = C.constraints.length := by obtain ⟨A, c, e, _⟩ := HIN.out.c; rw [ec] at e; injection e with _ e _
    have b1 : na ≤ 16384 := by rw [ha]; exact hr.na
    have b2 : nl ≤ 16384 := by rw [hl]; exact hr.nl
    have b3 : nc ≤ 16384 := by rw [hc]; exact hr.nc
    have ecn : cntF C n = 1 + (resT C 0).length + n * (3 * na + nc) + (n - 1) * 2 * nl := by unfold cntF; rw [ha, hl, hc, Int.mul_assoc (n - 1)]
    have HBND : Hid ((∀ t, (gatT C t ++ conT C t).length ≤ 100000) ∧ ∀ t, (nxtT C t).length ≤ 50000) := Lib.hid ⟨fun t => by have := pts_len hz t [.gat, .con]; simpa [Pt.cls] using this, fun t => Pt.cls_len hz t .nxt⟩
    obtain ⟨r, hrr⟩ : ∃ r : Nat, (resT C 0).length = r := ⟨_, rfl⟩
    have HRL := Lib.hid hrr
    rw [hrr] at hrl ecn
    obtain ⟨cn, hcn⟩ : ∃ cn, cntF C n = cn := ⟨_, rfl⟩
    have HCN := Lib.hid hcn
    rw [hcn] at ecn efr
    have m1 : 0 ≤ n * (3 * (na : Int) + nc) ∧ n * (3 * (na : Int) + nc) ≤ 512 * 65536 := ⟨Int.mul_nonneg (by omega) (by omega), Int.mul_le_mul s2 (by omega) (by omega) (by omega)⟩
    have m2 : 0 ≤ (n - 1) * 2 * (nl : Int) ∧ (n - 1) * 2 * (nl : Int) ≤ 1024 * 16384 := ⟨Int.mul_nonneg (by omega) (by omega), Int.mul_le_mul (by omega) (by omega) (by omega) (by omega)⟩
    have w1 : IntKind.i64.wrap (3 * (na : Int)) = 3 * (na : Int) := i64_in (by omega)
    have w2 : IntKind.i64.wrap (3 * (na : Int) + nc) = 3 * (na : Int) + nc := i64_in (by omega)
    have w4 : IntKind.i64.wrap (1 + (r : Int)) = 1 + (r : Int) := i64_in (by omega)
    have w5 : IntKind.i64.wrap (n * (3 * (na : Int) + nc)) = n * (3 * (na : Int) + nc) := i64_in (by omega)
    have w6 : IntKind.i64.wrap (n - 1) = n - 1 := i64_in (by omega)
    have w7 : IntKind.i64.wrap ((n - 1) * 2) = (n - 1) * 2 := i64_in (by omega)
    have w8 : IntKind.i64.wrap ((n - 1) * 2 * (nl : Int)) = (n - 1) * 2 * (nl : Int) := i64_in (by omega)
    generalize hx1 : n * (3 * (na : Int) + nc) = x1 at *
    generalize hx2 : (n - 1) * 2 * (nl : Int) = x2 at *
    have w9 : IntKind.i64.wrap (1 + (r : Int) + x1) = 1 + (r : Int) + x1 := i64_in (by omega)
    have w10 : IntKind.i64.wrap (1 + (r : Int) + x1 + x2) = cn := by rw [ecn]; exact i64_in (by omega)
    clear ecn m1 m2 ha hl hc
    have HFIN : Hid (fitR C n = (if 524288 < cn then 6 else 0)) := Lib.hid efr
    obtain ⟨vn, hvn⟩ : ∃ vn, 1 + n * C.max = vn := ⟨_, rfl⟩
    have HVN := Lib.hid hvn
    obtain ⟨m, hm⟩ : ∃ m, C.max = m := ⟨_, rfl⟩
    rw [hvn] at HVA
    rw [hm] at HX0 HBX HVA HF0 HST HNX HW0 ⊢
    have HFN := Lib.hid hf
    obtain ⟨Vi, Vl, Vo, Vb, Vc, Vj, Vf, Va, Vs, Vt⟩ := V
    simp only at ea el ec
    subst ea el ec
    clear hr hs hz hf evf efr hvn hm hcn hrr
    go_enter Try.func36, Try.ntmps36
    go_upto_region 1 with (fail)
    rw [HW0.out]
    go_upto_region 4 with (first
      | (refine wpList_load_row rfl 29 (.tmp 2) rfl w.heap.size rfl 29 #[.int .i64 m, Vi, .slice AL nl cl, Vo, Vb, .slice AC nc cc, Vj, Vf, .slice AA na ca, Vs, Vt] (0, 0) _ HBX.out Try.underlying29 rfl (by kernel_rfl) ?_)
      | (go_at_call 25; refine HVA.out.mono ?_; rintro e w1 ⟨rfl, hb1⟩; have HB1 := Lib.hid hb1; clear hb1))
    obtain ⟨c0, c1, c2, c3, c4, c5, c6, c7, c8, c9, c10⟩ := rbox_of (HX0.out.below HB1.out HX0.out.lt)
    have HX1 : Hid (Blk w1 w.heap.size 29 #[.int .i64 m, Vi, .slice AL nl cl, Vo, Vb, .slice AC nc cc, Vj, Vf, .slice AA na ca, Vs, Vt]) := Lib.hid (HX0.out.below HB1.out HX0.out.lt)
    go_upto_region 5 with (fail)
    clear c0 c1 c2 c3 c4 c5 c6 c7 c8 c9 c10
    refine wp_region_T (by kernel_rfl) (fun w' => Blk w' w.heap.size 29 #[.int .i64 m, Vi, .slice AL nl cl, Vo, Vb, .slice AC nc cc, Vj, Vf, .slice AA na ca, Vs, Vt]) 17 ?_
    have hHeld := HX1.out.drew
    refine wpAnyT_take (i := 0) (v := ?v0q1) rfl (by kernel_rfl) (fun _ _ _ h => h) (by rfl) hHeld ?h0q1 ?_
    case h0q1 => (intro w' hSw; (try dsimp only at hSw); obtain ⟨c0, c1, c2, c3, c4, c5, c6, c7, c8, c9, c10⟩ := rbox_of hSw; go_simp; try with_reducible rfl)
    (try simp only [Act.put, List.setIfInBounds_toArray, List.set_cons_zero, List.set_cons_succ, List.getElem_toArray, List.getElem_cons_zero])
    refine wpAnyT_take (i := 4) (v := ?v4q2) rfl (by kernel_rfl) (fun _ _ _ h => h) (by rfl) hHeld ?h4q2 ?_
    case h4q2 => (intro w' hSw; (try dsimp only at hSw); go_simp; try with_reducible rfl)
    (try simp only [Act.put, List.setIfInBounds_toArray, List.set_cons_zero, List.set_cons_succ, List.getElem_toArray, List.getElem_cons_zero, List.getElem_cons_succ])
    refine wpAnyT_take (i := 5) (v := ?v5q3) rfl (by kernel_rfl) (fun _ _ _ h => h) (by rfl) hHeld ?h5q3 ?_
    case h5q3 => (intro w' hSw; (try dsimp only at hSw); go_simp; try with_reducible rfl)
    (try simp only [Act.put, List.setIfInBounds_toArray, List.set_cons_zero, List.set_cons_succ, List.getElem_toArray, List.getElem_cons_zero, List.getElem_cons_succ])
    refine wpAnyT_take (i := 6) (v := ?v6q4) rfl (by kernel_rfl) (fun _ _ _ h => h) (by rfl) hHeld ?h6q4 ?_
    case h6q4 => (intro w' hSw; (try dsimp only at hSw); go_simp; try with_reducible rfl)
    (try simp only [Act.put, List.setIfInBounds_toArray, List.set_cons_zero, List.set_cons_succ, List.getElem_toArray, List.getElem_cons_zero, List.getElem_cons_succ])
    refine wpAnyT_take (i := 8) (v := ?v8q5) rfl (by kernel_rfl) (fun _ _ _ h => h) (by rfl) hHeld ?h8q5 ?_
    case h8q5 => (intro w' hSw; (try dsimp only at hSw); go_simp; try with_reducible rfl)
    (try simp only [Act.put, List.setIfInBounds_toArray, List.set_cons_zero, List.set_cons_succ, List.getElem_toArray, List.getElem_cons_zero, List.getElem_cons_succ])
    refine wpAnyT_take (i := 9) (v := ?v9q6) rfl (by kernel_rfl) (fun _ _ _ h => h) (by rfl) hHeld ?h9q6 ?_
    case h9q6 => (intro w' hSw; (try dsimp only at hSw); go_simp; try with_reducible rfl)
    (try simp only [Act.put, List.setIfInBounds_toArray, List.set_cons_zero, List.set_cons_succ, List.getElem_toArray, List.getElem_cons_zero, List.getElem_cons_succ])
    refine wpAnyT_take (i := 10) (v := ?v10q7) rfl (by kernel_rfl) (fun _ _ _ h => h) (by rfl) hHeld ?h10q7 ?_
    case h10q7 => (intro w' hSw; (try dsimp only at hSw); go_simp; try with_reducible rfl)
    (try simp only [Act.put, List.setIfInBounds_toArray, List.set_cons_zero, List.set_cons_succ, List.getElem_toArray, List.getElem_cons_zero, List.getElem_cons_succ])
    refine wpAnyT_take (i := 11) (v := ?v11q8) rfl (by kernel_rfl) (fun _ _ _ h => h) (by rfl) hHeld ?h11q8 ?_
    case h11q8 => (intro w' hSw; (try dsimp only at hSw); obtain ⟨c0, c1, c2, c3, c4, c5, c6, c7, c8, c9, c10⟩ := rbox_of hSw; go_simp; try with_reducible rfl)
    (try simp only [Act.put, List.setIfInBounds_toArray, List.set_cons_zero, List.set_cons_succ, List.getElem_toArray, List.getElem_cons_zero, List.getElem_cons_succ])
    refine wpAnyT_take (i := 12) (v := ?v12q9) rfl (by kernel_rfl) (fun _ _ _ h => h) (by rfl) hHeld ?h12q9 ?_
    case h12q9 => (intro w' hSw; (try dsimp only at hSw); obtain ⟨c0, c1, c2, c3, c4, c5, c6, c7, c8, c9, c10⟩ := rbox_of hSw; go_simp; try with_reducible rfl)
    (try simp only [Act.put, List.setIfInBounds_toArray, List.set_cons_zero, List.set_cons_succ, List.getElem_toArray, List.getElem_cons_zero, List.getElem_cons_succ])
    refine wpAnyT_take (i := 13) (v := ?v13q10) rfl (by kernel_rfl) (fun _ _ _ h => h) (by rfl) hHeld ?h13q10 ?_
    case h13q10 => (intro w' hSw; (try dsimp only at hSw); go_simp; try with_reducible rfl)
    (try simp only [Act.put, List.setIfInBounds_toArray, List.set_cons_zero, List.set_cons_succ, List.getElem_toArray, List.getElem_cons_zero, List.getElem_cons_succ])
    refine wpAnyT_take (i := 14) (v := ?v14q11) rfl (by kernel_rfl) (fun _ _ _ h => h) (by rfl) hHeld ?h14q11 ?_
    case h14q11 => (intro w' hSw; (try dsimp only at hSw); go_simp; try with_reducible rfl)
    (try simp only [Act.put, List.setIfInBounds_toArray, List.set_cons_zero, List.set_cons_succ, List.getElem_toArray, List.getElem_cons_zero, List.getElem_cons_succ])
    clear hHeld
    refine wpAnyT_one (i := 1) rfl (by kernel_rfl) (fun K hK => ?_)
    go_simp
    go_at_call 71
    refine (HF0.out _ HB1.out.drew).mono ?_
    rintro e W5 ⟨hb5, v5, us5, rfl, hd5⟩
    obtain ⟨A5, k5, e5⟩ := own_slice_k hd5.own
    subst e5
    have hul5 : us5.length = r := hd5.ul.trans HRL.out
    rw [hul5]
    have HB5 : Hid (Below W0.heap.size W0 W5) := Lib.hid (HB1.out.drew.trans (hb5.mono HB1.out.drew.size))
    have HX5 := Lib.hid (HX0.out.below HB5.out HX0.out.lt)
    clear hb5 hd5 hul5
    refine hK.out _ _ (fun _ => HX5.out) ?_
    clear hK K
    (try simp only [Act.put, List.setIfInBounds_toArray, List.set_cons_zero, List.set_cons_succ, List.getElem_toArray, List.getElem_cons_zero, List.getElem_cons_succ])
    refine wpAnyT_one (i := 2) rfl (by kernel_rfl) (fun K hK => ?_)
    go_simp
    refine hK.out _ _ (fun _ => HX5.out) ?_
    clear hK K
    (try simp only [Act.put, List.setIfInBounds_toArray, List.set_cons_zero, List.set_cons_succ, List.getElem_toArray, List.getElem_cons_zero, List.getElem_cons_succ])
    refine wpAnyT_one (i := 3) rfl (by kernel_rfl) (fun K hK => ?_)
    go_simp
    refine hK.out _ _ (fun _ => HX5.out) ?_
    clear hK K
    (try simp only [Act.put, List.setIfInBounds_toArray, List.set_cons_zero, List.set_cons_succ, List.getElem_toArray, List.getElem_cons_zero, List.getElem_cons_succ])
    refine wpAnyT_one (i := 7) rfl (by kernel_rfl) (fun K hK => ?_)
    go_simp
    refine hK.out _ _ (fun _ => HX5.out) ?_
    clear hK K
    (try simp only [Act.put, List.setIfInBounds_toArray, List.set_cons_zero, List.set_cons_succ, List.getElem_toArray, List.getElem_cons_zero, List.getElem_cons_succ])
    refine wpAnyT_one (i := 15) rfl (by kernel_rfl) (fun K hK => ?_)
    go_simp
    refine hK.out _ _ (fun _ => HX5.out) ?_
    clear hK K
    (try simp only [Act.put, List.setIfInBounds_toArray, List.set_cons_zero, List.set_cons_succ, List.getElem_toArray, List.getElem_cons_zero, List.getElem_cons_succ])
    refine wpAnyT_one (i := 16) rfl (by kernel_rfl) (fun K hK => ?_)
    go_simp
    refine hK.out _ _ (fun _ => HX5.out) ?_
    clear hK K
    (try simp only [Act.put, List.setIfInBounds_toArray, List.set_cons_zero, List.set_cons_succ, List.getElem_toArray, List.getElem_cons_zero, List.getElem_cons_succ])
    refine wpAnyT_done (by kernel_rfl) ?_
    by_cases hct : 524288 < cn
    · have efr : fitR C n = 6 := by rw [HFIN.out, if_pos hct]
      have ern : runN C n = 0 := if_neg (by rw [efr]; decide)
      have erf : runF C n = [] := if_neg (by rw [efr]; decide)
      have EFR := Lib.hid efr
      have ERN := Lib.hid ern
      have ERF := Lib.hid erf
      clear efr ern erf
      have HR1 := Lib.hid (H1.out.below HB5.out H1.out.lt)
      have r0 := HR1.out.cell 0
      have r1 := HR1.out.cell 1
      have rf0 := HR1.out.frozen 0
      have rf1 := HR1.out.frozen 1
      have rl := HR1.out.lt
      simp only [List.getElem?_toArray, List.getElem?_cons_zero, List.getElem?_cons_succ] at r0 r1
      go_wp2
      have hw9 : Blk ((W5.setCell ⟨w.heap.size + 1, 0, none⟩ (.int .i64 0)).setCell ⟨w.heap.size + 1, 1, none⟩ (.slice none 0 0)) (w.heap.size + 1) 34 #[.int .i64 0, (.slice none 0 0)] := by
        have := (HR1.out.set_ 0 (.int .i64 0)).set_ 1 (.slice none 0 0)
        simpa using this
      refine bodyPost_ret (results_cell_oneE (fn := Try.f36) (p := 4) (q := 5) rfl _ _ (w.heap.size + 1) 34 #[.int .i64 0, (.slice none 0 0)] (0, 0) _ rfl hw9 Try.underlying34 rfl (by kernel_rfl) (.int .i64 6) rfl) rfl ?_
      rw [EFR.out, ERN.out, ERF.out]
      exact ⟨((bt HB0.out (Nat.le_refl _) HB5.out).setCell (by simp) _).setCell (by simp) _, _, [], rfl, drow_none _ _⟩
    · have efr : fitR C n = 0 := by rw [HFIN.out, if_neg hct]
      obtain ⟨K, hK⟩ : ∃ K : Nat, n = (K : Int) + 1 := ⟨(n - 1).toNat, by omega⟩
      have ern : runN C n = vn := by unfold runN; rw [if_pos efr]; exact HVN.out
      have erf : runF C n = runT C K := by unfold runF; rw [if_pos efr]; congr 1; omega
      have EFR := Lib.hid efr
      have ERN := Lib.hid ern
      have ERF := Lib.hid erf
      have HRT : Hid (∀ j, j ≤ K → (runT C j).length ≤ 524288) := Lib.hid (fun j hj => by
        have h1 := runT_mono C j (K - j)
        rw [show j + (K - j) = K by omega] at h1
        have h2 := runT_len C K
        rw [← hK, HCN.out] at h2
        omega)
      obtain ⟨i0, hi0, hz0, hz1, hz2⟩ := info_of2 infoCl
      have HI0 := Lib.hid (And.intro hi0 (And.intro hz0 (And.intro hz1 hz2)))
      clear efr ern erf hi0 hz0 hz1 hz2
      go_upto_region 8 with (fail)
      have hb7 : Below W5.heap.size W5 (((W5.alloc (.cells #[.int .i64 (-1)] 3)).alloc (.cells #[.slice (some ⟨W5.heap.size, 0, none⟩) 1 1] 81)).alloc (.cells #[.int .i64 vn, .slice (some ⟨W5.heap.size + 1, 0, none⟩) 1 1] 34)) := (((Below.refl _ _).alloc (Nat.le_refl _) _).alloc (by simp) _).alloc (by simp; omega) _
      have hf7 := Blk.new ((W5.alloc (.cells #[.int .i64 (-1)] 3)).alloc (.cells #[.slice (some ⟨W5.heap.size, 0, none⟩) 1 1] 81)) 34 #[.int .i64 vn, .slice (some ⟨W5.heap.size + 1, 0, none⟩) 1 1]
      have hc7 := (Blk.new (W5.alloc (.cells #[.int .i64 (-1)] 3)) 81 #[.slice (some ⟨W5.heap.size, 0, none⟩) 1 1]).alloc (.cells #[.int .i64 vn, .slice (some ⟨W5.heap.size + 1, 0, none⟩) 1 1] 34)
      have he7 := own_below (own_below (own_oneB W5 (.int .i64 (-1))) ((Below.refl _ _).alloc (Nat.le_refl _) (.cells #[.slice (some ⟨W5.heap.size, 0, none⟩) 1 1] 81))) ((Below.refl _ _).alloc (Nat.le_refl _) (.cells #[.int .i64 vn, .slice (some ⟨W5.heap.size + 1, 0, none⟩) 1 1] 34))
      simp only [World.size_alloc] at hf7 hc7
      obtain ⟨W7, hW7⟩ : ∃ x, ((W5.alloc (.cells #[.int .i64 (-1)] 3)).alloc (.cells #[.slice (some ⟨W5.heap.size, 0, none⟩) 1 1] 81)).alloc (.cells #[.int .i64 vn, .slice (some ⟨W5.heap.size + 1, 0, none⟩) 1 1] 34) = x := ⟨_, rfl⟩
      obtain ⟨gf, hgf⟩ : ∃ x, W5.heap.size + 1 + 1 = x := ⟨_, rfl⟩
      rw [hW7] at hb7 hf7 hc7 he7
      rw [hgf] at hf7
      rw [hW7, hgf]
      have HGF : Hid (W5.heap.size ≤ gf) := Lib.hid (by omega)
      have HSW7 : Hid (Below W5.heap.size W5 W7 ∧ Blk W7 gf 34 #[.int .i64 vn, .slice (some ⟨W5.heap.size + 1, 0, none⟩) 1 1] ∧ DRow W7 W5.heap.size (.slice (some ⟨W5.heap.size + 1, 0, none⟩) 1 1) [.slice (some ⟨W5.heap.size, 0, none⟩) 1 1] [[-1]]) := Lib.hid ⟨hb7, hf7, rfl, blk_ownR hc7 (by omega) rfl (by simp [maxLen]), oneR (x := [-1]) he7⟩
      clear hb7 hf7 hc7 he7 hW7 hgf
      have HCB9 : Hid (∀ wz, Below W5.heap.size W5 wz → Blk wz w.heap.size 29 #[.int .i64 m, Vi, .slice AL nl cl, Vo, Vb, .slice AC nc cc, Vj, Vf, .slice AA na ca, Vs, Vt]) := Lib.hid (fun wz hb => HX5.out.below hb HX5.out.lt)
      refine wp_region_T (by kernel_rfl) (fun w' => Blk w' w.heap.size 29 #[.int .i64 m, Vi, .slice AL nl cl, Vo, Vb, .slice AC nc cc, Vj, Vf, .slice AA na ca, Vs, Vt] ∧ Blk w' gf 34 #[.int .i64 vn, .slice (some ⟨W5.heap.size + 1, 0, none⟩) 1 1]) 6 ?_
      have hHeld : Blk W7.drew w.heap.size 29 #[.int .i64 m, Vi, .slice AL nl cl, Vo, Vb, .slice AC nc cc, Vj, Vf, .slice AA na ca, Vs, Vt] ∧ Blk W7.drew gf 34 #[.int .i64 vn, .slice (some ⟨W5.heap.size + 1, 0, none⟩) 1 1] := ⟨HCB9.out _ HSW7.out.1.drew, HSW7.out.2.1.drew⟩
      refine wpAnyT_take (i := 0) (v := ?v0q12) rfl (by kernel_rfl) (fun _ _ _ h => h) (by rfl) hHeld ?h0q12 ?_
      case h0q12 => (intro w' hSw; (try dsimp only at hSw); go_simp; try with_reducible rfl)
      (try simp only [Act.put, List.setIfInBounds_toArray, List.set_cons_zero, List.set_cons_succ, List.getElem_toArray, List.getElem_cons_zero])
      refine wpAnyT_take (i := 1) (v := ?v1q13) rfl (by kernel_rfl) (fun _ _ _ h => h) (by rfl) hHeld ?h1q13 ?_
      case h1q13 => (intro w' hSw; (try dsimp only at hSw); have f1 := hSw.2.cell 1; simp only [List.getElem?_toArray, List.getElem?_cons_zero, List.getElem?_cons_succ] at f1; go_simp; try with_reducible rfl)
      (try simp only [Act.put, List.setIfInBounds_toArray, List.set_cons_zero, List.set_cons_succ, List.getElem_toArray, List.getElem_cons_zero, List.getElem_cons_succ])
      refine wpAnyT_take (i := 2) (v := ?v2q14) rfl (by kernel_rfl) (fun _ _ _ h => h) (by rfl) hHeld ?h2q14 ?_
      case h2q14 => (intro w' hSw; (try dsimp only at hSw); obtain ⟨c0, c1, c2, c3, c4, c5, c6, c7, c8, c9, c10⟩ := rbox_of hSw.1; go_simp; try with_reducible rfl)
      (try simp only [Act.put, List.setIfInBounds_toArray, List.set_cons_zero, List.set_cons_succ, List.getElem_toArray, List.getElem_cons_zero, List.getElem_cons_succ])
      clear hHeld
      refine wpAnyT_one (i := 3) rfl (by kernel_rfl) (fun K hK => ?_)
      go_simp
      go_at_call 71
      refine (HF0.out _ (HB5.out.trans (HSW7.out.1.drew.mono HB5.out.size))).mono ?_
      rintro e w8 ⟨hb8, v8, us8, rfl, hd8⟩
      obtain ⟨A8, k8, e8⟩ := own_slice_k hd8.own
      subst e8
      have HB8 : Hid (Below W7.heap.size W7 w8) := Lib.hid (bt (Below.refl W7.heap.size W7).drew (Nat.le_refl _) hb8)
      have HD8 : Hid (DRow w8 W7.heap.size (.slice A8 us8.length k8) us8 (resT C 0)) := Lib.hid (hd8.base (Nat.le_refl _))
      have HU8 : Hid (us8.length ≤ 100000) := Lib.hid (by rw [hd8.ul]; have := HRL.out; omega)
      have HU9 : Hid ([Value.slice (some ⟨W5.heap.size, 0, none⟩) 1 1].length ≤ 600000) := Lib.hid (by have := HSW7.out.2.2.ul; rw [this]; simp)
      clear hb8 hd8
      refine hK.out _ _ (fun _ => ⟨HCB9.out _ (HSW7.out.1.trans (HB8.out.mono HSW7.out.1.size)), HSW7.out.2.1.below HB8.out HSW7.out.2.1.lt⟩) ?_
      clear hK K
      (try simp only [Act.put, List.setIfInBounds_toArray, List.set_cons_zero, List.set_cons_succ, List.getElem_toArray, List.getElem_cons_zero, List.getElem_cons_succ])
      refine wpAnyT_one (i := 4) rfl (by kernel_rfl) (fun K hK => ?_)
      refine step_append_any _ rfl (.tmp 52) (.tmp 54) _ rfl W5.heap.size 81 i0 _ 1 24 Try.underlying32 HI0.out.1 HI0.out.2.1 HI0.out.2.2.1 HI0.out.2.2.2 rfl (by omega) (.slice (some ⟨W5.heap.size + 1, 0, none⟩) 1 1) _ _ (by first | rfl | (simp [Act.eval])) (own_below HSW7.out.2.2.own HB8.out) w8.heap.size A8 us8.length k8 us8 (by first | rfl | (simp [Act.eval])) (rowF _ _ _ _ _ HD8.out.row).2 HD8.out.one (by have := HU8.out; have := HU9.out; simp only [maxLen]; omega) (by have := HU8.out; have := HU9.out; omega) (Nat.le_trans HSW7.out.1.size HB8.out.size) ?_
      intro v9 w9 hown9 hg9 _
      obtain ⟨A9, L9, k9, e9⟩ : ∃ A L k, v9 = .slice A L k := by
        obtain ⟨A, c, e⟩ := own_slice_k hown9
        exact ⟨A, _, c, e⟩
      subst e9
      have HDU := Lib.hid (du_app HSW7.out.1 HSW7.out.1.size HGF.out HSW7.out.2.1 HSW7.out.2.2 HB8.out HD8.out hg9 hown9)
      clear hown9 hg9
      obtain ⟨g1, g2, g3⟩ := HDU.out.1
      refine hK.out _ _ (fun _ => ⟨HCB9.out _ HDU.out.2.1.1, HDU.out.2.1.2⟩) ?_
      clear hK K
      (try simp only [Act.put, List.setIfInBounds_toArray, List.set_cons_zero, List.set_cons_succ, List.getElem_toArray, List.getElem_cons_zero, List.getElem_cons_succ])
      refine wpAnyT_one (i := 5) rfl (by kernel_rfl) (fun K hK => ?_)
      go_simp
      refine hK.out _ _ (fun _ => ⟨HCB9.out _ HDU.out.2.1.1, HDU.out.2.1.2⟩) ?_
      clear hK K
      (try simp only [Act.put, List.setIfInBounds_toArray, List.set_cons_zero, List.set_cons_succ, List.getElem_toArray, List.getElem_cons_zero, List.getElem_cons_succ])
      refine wpAnyT_one (i := 6) rfl (by kernel_rfl) (fun K hK => ?_)
      go_simp
      refine hK.out _ _ (fun h => absurd h (by decide)) ?_
      clear hK K
      (try simp only [Act.put, List.setIfInBounds_toArray, List.set_cons_zero, List.set_cons_succ, List.getElem_toArray, List.getElem_cons_zero, List.getElem_cons_succ])
      clear g1 g2 g3
      refine wpAnyT_done (by kernel_rfl) ?_
      obtain ⟨W8, hz9⟩ : ∃ x, w9.setCell ⟨gf, 1, none⟩ (.slice A9 L9 k9) = x := ⟨_, rfl⟩
      have HSW8 := Lib.hid HDU.out.2.2
      rw [hz9] at HSW8
      rw [hz9]
      clear hz9 HDU HB8 HD8 HU8 HU9 HCB9
      rw [show [[-1]] ++ resT C 0 = docT C 0 from rfl] at HSW8
      clear HSW7
      go_wp2
      go_loopg [10] (K + 1) (fun k jv wx => ∃ (q : Nat) (v : Value) (us : List Value), q ≤ K + 1 ∧ k = K + 1 - q ∧ jv = .int .i64 q ∧ Below W5.heap.size W5 wx ∧ Blk wx gf 34 #[.int .i64 vn, v] ∧ DRow wx W5.heap.size v us (docT C q))
      case atStart => exact ⟨0, _, _, Nat.zero_le _, rfl, rfl, HSW8.out⟩
      case round =>
        clear HSW8
        obtain ⟨q, v, us, hq, hgk, rfl, hst⟩ := hrel
        subst hgk
        have HSwr := Lib.hid hst
        clear hst
        by_cases hlt : q < K + 1
        · have hk0 : (0 : Int) ≤ (q : Int) := by omega
          have hk1 : (q : Int) < n := by omega
          obtain ⟨vA, vc, hve⟩ := own_slice_k HSwr.out.2.2.own
          subst hve
          by_cases hq0 : q = 0
          · subst hq0
            have HDL : Hid ((docT C 0).length ≤ 524288) := Lib.hid (by have := HRT.out 0 (Nat.zero_le _); simp only [runT, docT, List.length_cons, List.length_append] at this ⊢; omega)
            go_upto_region 14 with (fail)
            have HCB9 : Hid (∀ wz, Below W5.heap.size W5 wz → Blk wz w.heap.size 29 #[.int .i64 m, Vi, .slice AL nl cl, Vo, Vb, .slice AC nc cc, Vj, Vf, .slice AA na ca, Vs, Vt]) := Lib.hid (fun wz hb => HX5.out.below hb HX5.out.lt)
            refine wp_region_T (by kernel_rfl) (fun w' => Blk w' w.heap.size 29 #[.int .i64 m, Vi, .slice AL nl cl, Vo, Vb, .slice AC nc cc, Vj, Vf, .slice AA na ca, Vs, Vt] ∧ Blk w' gf 34 #[.int .i64 vn, .slice vA us.length vc]) 7 ?_
            have hHeld : Blk wr.drew w.heap.size 29 #[.int .i64 m, Vi, .slice AL nl cl, Vo, Vb, .slice AC nc cc, Vj, Vf, .slice AA na ca, Vs, Vt] ∧ Blk wr.drew gf 34 #[.int .i64 vn, .slice vA us.length vc] := ⟨HCB9.out _ HSwr.out.1.drew, HSwr.out.2.1.drew⟩
            refine wpAnyT_take (i := 0) (v := ?v0q15) rfl (by kernel_rfl) (fun _ _ _ h => h) (by rfl) hHeld ?h0q15 ?_
            case h0q15 => (intro w' hSw; (try dsimp only at hSw); go_simp; try with_reducible rfl)
            (try simp only [Act.put, List.setIfInBounds_toArray, List.set_cons_zero, List.set_cons_succ, List.getElem_toArray, List.getElem_cons_zero])
            refine wpAnyT_take (i := 1) (v := ?v1q16) rfl (by kernel_rfl) (fun _ _ _ h => h) (by rfl) hHeld ?h1q16 ?_
            case h1q16 => (intro w' hSw; (try dsimp only at hSw); have f1 := hSw.2.cell 1; simp only [List.getElem?_toArray, List.getElem?_cons_zero, List.getElem?_cons_succ] at f1; go_simp; try with_reducible rfl)
            (try simp only [Act.put, List.setIfInBounds_toArray, List.set_cons_zero, List.set_cons_succ, List.getElem_toArray, List.getElem_cons_zero, List.getElem_cons_succ])
            refine wpAnyT_take (i := 2) (v := ?v2q17) rfl (by kernel_rfl) (fun _ _ _ h => h) (by rfl) hHeld ?h2q17 ?_
            case h2q17 => (intro w' hSw; (try dsimp only at hSw); obtain ⟨c0, c1, c2, c3, c4, c5, c6, c7, c8, c9, c10⟩ := rbox_of hSw.1; go_simp; try with_reducible rfl)
            (try simp only [Act.put, List.setIfInBounds_toArray, List.set_cons_zero, List.set_cons_succ, List.getElem_toArray, List.getElem_cons_zero, List.getElem_cons_succ])
            refine wpAnyT_take (i := 3) (v := ?v3q18) rfl (by kernel_rfl) (fun _ _ _ h => h) (by rfl) hHeld ?h3q18 ?_
            case h3q18 => (intro w' hSw; (try dsimp only at hSw); go_simp; try with_reducible rfl)
            (try simp only [Act.put, List.setIfInBounds_toArray, List.set_cons_zero, List.set_cons_succ, List.getElem_toArray, List.getElem_cons_zero, List.getElem_cons_succ])
            clear hHeld
            refine wpAnyT_one (i := 4) rfl (by kernel_rfl) (fun K hK => ?_)
            go_simp
            go_at_call 67
            refine (HST.out _ (HB5.out.trans (HSwr.out.1.drew.mono HB5.out.size)) ((0 : Nat) : Int) (by omega) (by omega)).mono ?_
            rintro e w8 ⟨hb8, v8, us8, rfl, hd8⟩
            obtain ⟨A8, k8, e8⟩ := own_slice_k hd8.own
            subst e8
            have HB8 : Hid (Below wr.heap.size wr w8) := Lib.hid (bt (Below.refl wr.heap.size wr).drew (Nat.le_refl _) hb8)
            have HD8 : Hid (DRow w8 wr.heap.size (.slice A8 us8.length k8) us8 (gatT C ((0 : Nat) : Int) ++ conT C ((0 : Nat) : Int))) := Lib.hid (hd8.base (Nat.le_refl _))
            have HU8 : Hid (us8.length ≤ 100000) := Lib.hid (by rw [hd8.ul]; exact HBND.out.1 _)
            have HU9 : Hid (us.length ≤ 600000) := Lib.hid (by have := HSwr.out.2.2.ul; rw [this]; have := HDL.out; omega)
            clear hb8 hd8
            refine hK.out _ _ (fun _ => ⟨HCB9.out _ (HSwr.out.1.trans (HB8.out.mono HSwr.out.1.size)), HSwr.out.2.1.below HB8.out HSwr.out.2.1.lt⟩) ?_
            clear hK K
            (try simp only [Act.put, List.setIfInBounds_toArray, List.set_cons_zero, List.set_cons_succ, List.getElem_toArray, List.getElem_cons_zero, List.getElem_cons_succ])
            refine wpAnyT_one (i := 5) rfl (by kernel_rfl) (fun K hK => ?_)
            refine step_append_any _ rfl (.tmp 73) (.tmp 76) _ rfl W5.heap.size 81 i0 _ 1 24 Try.underlying32 HI0.out.1 HI0.out.2.1 HI0.out.2.2.1 HI0.out.2.2.2 rfl (by omega) (.slice vA us.length vc) _ _ (by first | rfl | (simp [Act.eval])) (own_below HSwr.out.2.2.own HB8.out) w8.heap.size A8 us8.length k8 us8 (by first | rfl | (simp [Act.eval])) (rowF _ _ _ _ _ HD8.out.row).2 HD8.out.one (by have := HU8.out; have := HU9.out; simp only [maxLen]; omega) (by have := HU8.out; have := HU9.out; omega) (Nat.le_trans HSwr.out.1.size HB8.out.size) ?_
            intro v9 w9 hown9 hg9 _
            obtain ⟨A9, L9, k9, e9⟩ : ∃ A L k, v9 = .slice A L k := by
              obtain ⟨A, c, e⟩ := own_slice_k hown9
              exact ⟨A, _, c, e⟩
            subst e9
            have HDU := Lib.hid (du_app HSwr.out.1 HSwr.out.1.size HGF.out HSwr.out.2.1 HSwr.out.2.2 HB8.out HD8.out hg9 hown9)
            clear hown9 hg9
            obtain ⟨g1, g2, g3⟩ := HDU.out.1
            refine hK.out _ _ (fun _ => ⟨HCB9.out _ HDU.out.2.1.1, HDU.out.2.1.2⟩) ?_
            clear hK K
            (try simp only [Act.put, List.setIfInBounds_toArray, List.set_cons_zero, List.set_cons_succ, List.getElem_toArray, List.getElem_cons_zero, List.getElem_cons_succ])
            refine wpAnyT_one (i := 6) rfl (by kernel_rfl) (fun K hK => ?_)
            go_simp
            refine hK.out _ _ (fun _ => ⟨HCB9.out _ HDU.out.2.1.1, HDU.out.2.1.2⟩) ?_
            clear hK K
            (try simp only [Act.put, List.setIfInBounds_toArray, List.set_cons_zero, List.set_cons_succ, List.getElem_toArray, List.getElem_cons_zero, List.getElem_cons_succ])
            refine wpAnyT_one (i := 7) rfl (by kernel_rfl) (fun K hK => ?_)
            go_simp
            refine hK.out _ _ (fun h => absurd h (by decide)) ?_
            clear hK K
            (try simp only [Act.put, List.setIfInBounds_toArray, List.set_cons_zero, List.set_cons_succ, List.getElem_toArray, List.getElem_cons_zero, List.getElem_cons_succ])
            clear g1 g2 g3
            refine wpAnyT_done (by kernel_rfl) ?_
            obtain ⟨Wz, hz9⟩ : ∃ x, w9.setCell ⟨gf, 1, none⟩ (.slice A9 L9 k9) = x := ⟨_, rfl⟩
            have HSWz := Lib.hid HDU.out.2.2
            rw [hz9] at HSWz
            rw [hz9]
            clear hz9 HDU HB8 HD8 HU8 HU9 HCB9
            go_wp2
            go_roundg (K + 1 - (0 + 1))
            case measure => omega
            case rel => exact ⟨0 + 1, _, _, by omega, rfl, by go_num, by have := HSWz.out; rwa [show docT C 0 ++ (gatT C ((0 : Nat) : Int) ++ conT C ((0 : Nat) : Int)) = docT C (0 + 1) by simp [docT, runT]] at this⟩
          · obtain ⟨j, hj⟩ : ∃ j, q = j + 1 := ⟨q - 1, by omega⟩
            have hq1 : (0 : Int) < (q : Int) := by omega
            have hwq : IntKind.i64.wrap ((q : Int) - 1) = (q : Int) - 1 := i64_in (by omega)
            have HJ := Lib.hid hj
            have hq8 : (q : Int) ≤ 511 := by omega
            have HDL : Hid ((docT C q).length ≤ 524288) := Lib.hid (by rw [hj]; exact HRT.out j (by omega))
            clear hj
            go_upto_region 13 with (fail)
            have HCB9 : Hid (∀ wz, Below W5.heap.size W5 wz → Blk wz w.heap.size 29 #[.int .i64 m, Vi, .slice AL nl cl, Vo, Vb, .slice AC nc cc, Vj, Vf, .slice AA na ca, Vs, Vt]) := Lib.hid (fun wz hb => HX5.out.below hb HX5.out.lt)
            refine wp_region_T (by kernel_rfl) (fun w' => Blk w' w.heap.size 29 #[.int .i64 m, Vi, .slice AL nl cl, Vo, Vb, .slice AC nc cc, Vj, Vf, .slice AA na ca, Vs, Vt] ∧ Blk w' gf 34 #[.int .i64 vn, .slice vA us.length vc]) 8 ?_
            have hHeld : Blk wr.drew w.heap.size 29 #[.int .i64 m, Vi, .slice AL nl cl, Vo, Vb, .slice AC nc cc, Vj, Vf, .slice AA na ca, Vs, Vt] ∧ Blk wr.drew gf 34 #[.int .i64 vn, .slice vA us.length vc] := ⟨HCB9.out _ HSwr.out.1.drew, HSwr.out.2.1.drew⟩
            refine wpAnyT_take (i := 0) (v := ?v0q19) rfl (by kernel_rfl) (fun _ _ _ h => h) (by rfl) hHeld ?h0q19 ?_
            case h0q19 => (intro w' hSw; (try dsimp only at hSw); go_simp; try with_reducible rfl)
            (try simp only [Act.put, List.setIfInBounds_toArray, List.set_cons_zero, List.set_cons_succ, List.getElem_toArray, List.getElem_cons_zero])
            refine wpAnyT_take (i := 1) (v := ?v1q20) rfl (by kernel_rfl) (fun _ _ _ h => h) (by rfl) hHeld ?h1q20 ?_
            case h1q20 => (intro w' hSw; (try dsimp only at hSw); have f1 := hSw.2.cell 1; simp only [List.getElem?_toArray, List.getElem?_cons_zero, List.getElem?_cons_succ] at f1; go_simp; try with_reducible rfl)
            (try simp only [Act.put, List.setIfInBounds_toArray, List.set_cons_zero, List.set_cons_succ, List.getElem_toArray, List.getElem_cons_zero, List.getElem_cons_succ])
            refine wpAnyT_take (i := 2) (v := ?v2q21) rfl (by kernel_rfl) (fun _ _ _ h => h) (by rfl) hHeld ?h2q21 ?_
            case h2q21 => (intro w' hSw; (try dsimp only at hSw); obtain ⟨c0, c1, c2, c3, c4, c5, c6, c7, c8, c9, c10⟩ := rbox_of hSw.1; go_simp; try with_reducible rfl)
            (try simp only [Act.put, List.setIfInBounds_toArray, List.set_cons_zero, List.set_cons_succ, List.getElem_toArray, List.getElem_cons_zero, List.getElem_cons_succ])
            refine wpAnyT_take (i := 3) (v := ?v3q22) rfl (by kernel_rfl) (fun _ _ _ h => h) (by rfl) hHeld ?h3q22 ?_
            case h3q22 => (intro w' hSw; (try dsimp only at hSw); go_simp; try with_reducible rfl)
            (try simp only [Act.put, List.setIfInBounds_toArray, List.set_cons_zero, List.set_cons_succ, List.getElem_toArray, List.getElem_cons_zero, List.getElem_cons_succ])
            refine wpAnyT_take (i := 4) (v := ?v4q23) rfl (by kernel_rfl) (fun _ _ _ h => h) (by rfl) hHeld ?h4q23 ?_
            case h4q23 => (intro w' hSw; (try dsimp only at hSw); go_simp; try with_reducible rfl)
            (try simp only [Act.put, List.setIfInBounds_toArray, List.set_cons_zero, List.set_cons_succ, List.getElem_toArray, List.getElem_cons_zero, List.getElem_cons_succ])
            clear hHeld
            refine wpAnyT_one (i := 5) rfl (by kernel_rfl) (fun K hK => ?_)
            go_simp
            go_at_call 69
            refine (HNX.out _ (HB5.out.trans (HSwr.out.1.drew.mono HB5.out.size)) ((q : Int) - 1) (by omega) (by omega)).mono ?_
            rintro e w8 ⟨hb8, v8, us8, rfl, hd8⟩
            obtain ⟨A8, k8, e8⟩ := own_slice_k hd8.own
            subst e8
            have HB8 : Hid (Below wr.heap.size wr w8) := Lib.hid (bt (Below.refl wr.heap.size wr).drew (Nat.le_refl _) hb8)
            have HD8 : Hid (DRow w8 wr.heap.size (.slice A8 us8.length k8) us8 (nxtT C ((q : Int) - 1))) := Lib.hid (hd8.base (Nat.le_refl _))
            have HU8 : Hid (us8.length ≤ 100000) := Lib.hid (by rw [hd8.ul]; have := HBND.out.2 ((q : Int) - 1); omega)
            have HU9 : Hid (us.length ≤ 600000) := Lib.hid (by have := HSwr.out.2.2.ul; rw [this]; have := HDL.out; omega)
            clear hb8 hd8
            refine hK.out _ _ (fun _ => ⟨HCB9.out _ (HSwr.out.1.trans (HB8.out.mono HSwr.out.1.size)), HSwr.out.2.1.below HB8.out HSwr.out.2.1.lt⟩) ?_
            clear hK K
            (try simp only [Act.put, List.setIfInBounds_toArray, List.set_cons_zero, List.set_cons_succ, List.getElem_toArray, List.getElem_cons_zero, List.getElem_cons_succ])
            refine wpAnyT_one (i := 6) rfl (by kernel_rfl) (fun K hK => ?_)
            refine step_append_any _ rfl (.tmp 65) (.tmp 69) _ rfl W5.heap.size 81 i0 _ 1 24 Try.underlying32 HI0.out.1 HI0.out.2.1 HI0.out.2.2.1 HI0.out.2.2.2 rfl (by omega) (.slice vA us.length vc) _ _ (by first | rfl | (simp [Act.eval])) (own_below HSwr.out.2.2.own HB8.out) w8.heap.size A8 us8.length k8 us8 (by first | rfl | (simp [Act.eval])) (rowF _ _ _ _ _ HD8.out.row).2 HD8.out.one (by have := HU8.out; have := HU9.out; simp only [maxLen]; omega) (by have := HU8.out; have := HU9.out; omega) (Nat.le_trans HSwr.out.1.size HB8.out.size) ?_
            intro v9 w9 hown9 hg9 _
            obtain ⟨A9, L9, k9, e9⟩ : ∃ A L k, v9 = .slice A L k := by
              obtain ⟨A, c, e⟩ := own_slice_k hown9
              exact ⟨A, _, c, e⟩
            subst e9
            have HDU := Lib.hid (du_app HSwr.out.1 HSwr.out.1.size HGF.out HSwr.out.2.1 HSwr.out.2.2 HB8.out HD8.out hg9 hown9)
            clear hown9 hg9
            obtain ⟨g1, g2, g3⟩ := HDU.out.1
            refine hK.out _ _ (fun _ => ⟨HCB9.out _ HDU.out.2.1.1, HDU.out.2.1.2⟩) ?_
            clear hK K
            (try simp only [Act.put, List.setIfInBounds_toArray, List.set_cons_zero, List.set_cons_succ, List.getElem_toArray, List.getElem_cons_zero, List.getElem_cons_succ])
            refine wpAnyT_one (i := 7) rfl (by kernel_rfl) (fun K hK => ?_)
            go_simp
            refine hK.out _ _ (fun _ => ⟨HCB9.out _ HDU.out.2.1.1, HDU.out.2.1.2⟩) ?_
            clear hK K
            (try simp only [Act.put, List.setIfInBounds_toArray, List.set_cons_zero, List.set_cons_succ, List.getElem_toArray, List.getElem_cons_zero, List.getElem_cons_succ])
            refine wpAnyT_one (i := 8) rfl (by kernel_rfl) (fun K hK => ?_)
            go_simp
            refine hK.out _ _ (fun h => absurd h (by decide)) ?_
            clear hK K
            (try simp only [Act.put, List.setIfInBounds_toArray, List.set_cons_zero, List.set_cons_succ, List.getElem_toArray, List.getElem_cons_zero, List.getElem_cons_succ])
            clear g1 g2 g3
            refine wpAnyT_done (by kernel_rfl) ?_
            obtain ⟨Wy, hz9⟩ : ∃ x, w9.setCell ⟨gf, 1, none⟩ (.slice A9 L9 k9) = x := ⟨_, rfl⟩
            have HSWy := Lib.hid HDU.out.2.2
            rw [hz9] at HSWy
            rw [hz9]
            clear hz9 HDU HB8 HD8 HU8 HU9 HCB9
            have HDL2 : Hid ((docT C q ++ nxtT C ((q : Int) - 1)).length ≤ 600000) := Lib.hid (by rw [List.length_append]; have := HDL.out; have := HBND.out.2 ((q : Int) - 1); omega)
            clear HSwr
            go_upto_region 14 with (fail)
            have HCB9 : Hid (∀ wz, Below W5.heap.size W5 wz → Blk wz w.heap.size 29 #[.int .i64 m, Vi, .slice AL nl cl, Vo, Vb, .slice AC nc cc, Vj, Vf, .slice AA na ca, Vs, Vt]) := Lib.hid (fun wz hb => HX5.out.below hb HX5.out.lt)
            refine wp_region_T (by kernel_rfl) (fun w' => Blk w' w.heap.size 29 #[.int .i64 m, Vi, .slice AL nl cl, Vo, Vb, .slice AC nc cc, Vj, Vf, .slice AA na ca, Vs, Vt] ∧ Blk w' gf 34 #[.int .i64 vn, .slice A9 L9 k9]) 7 ?_
            have hHeld : Blk Wy.drew w.heap.size 29 #[.int .i64 m, Vi, .slice AL nl cl, Vo, Vb, .slice AC nc cc, Vj, Vf, .slice AA na ca, Vs, Vt] ∧ Blk Wy.drew gf 34 #[.int .i64 vn, .slice A9 L9 k9] := ⟨HCB9.out _ HSWy.out.1.drew, HSWy.out.2.1.drew⟩
            refine wpAnyT_take (i := 0) (v := ?v0q24) rfl (by kernel_rfl) (fun _ _ _ h => h) (by rfl) hHeld ?h0q24 ?_
            case h0q24 => (intro w' hSw; (try dsimp only at hSw); go_simp; try with_reducible rfl)
            (try simp only [Act.put, List.setIfInBounds_toArray, List.set_cons_zero, List.set_cons_succ, List.getElem_toArray, List.getElem_cons_zero])
            refine wpAnyT_take (i := 1) (v := ?v1q25) rfl (by kernel_rfl) (fun _ _ _ h => h) (by rfl) hHeld ?h1q25 ?_
            case h1q25 => (intro w' hSw; (try dsimp only at hSw); have f1 := hSw.2.cell 1; simp only [List.getElem?_toArray, List.getElem?_cons_zero, List.getElem?_cons_succ] at f1; go_simp; try with_reducible rfl)
            (try simp only [Act.put, List.setIfInBounds_toArray, List.set_cons_zero, List.set_cons_succ, List.getElem_toArray, List.getElem_cons_zero, List.getElem_cons_succ])
            refine wpAnyT_take (i := 2) (v := ?v2q26) rfl (by kernel_rfl) (fun _ _ _ h => h) (by rfl) hHeld ?h2q26 ?_
            case h2q26 => (intro w' hSw; (try dsimp only at hSw); obtain ⟨c0, c1, c2, c3, c4, c5, c6, c7, c8, c9, c10⟩ := rbox_of hSw.1; go_simp; try with_reducible rfl)
            (try simp only [Act.put, List.setIfInBounds_toArray, List.set_cons_zero, List.set_cons_succ, List.getElem_toArray, List.getElem_cons_zero, List.getElem_cons_succ])
            refine wpAnyT_take (i := 3) (v := ?v3q27) rfl (by kernel_rfl) (fun _ _ _ h => h) (by rfl) hHeld ?h3q27 ?_
            case h3q27 => (intro w' hSw; (try dsimp only at hSw); go_simp; try with_reducible rfl)
            (try simp only [Act.put, List.setIfInBounds_toArray, List.set_cons_zero, List.set_cons_succ, List.getElem_toArray, List.getElem_cons_zero, List.getElem_cons_succ])
            clear hHeld
            refine wpAnyT_one (i := 4) rfl (by kernel_rfl) (fun K hK => ?_)
            go_simp
            go_at_call 67
            refine (HST.out _ (HB5.out.trans (HSWy.out.1.drew.mono HB5.out.size)) (q : Int) (by omega) (by omega)).mono ?_
            rintro e w8 ⟨hb8, v8, us7, rfl, hd8⟩
            obtain ⟨A8, k8, e8⟩ := own_slice_k hd8.own
            subst e8
            have HB8 : Hid (Below Wy.heap.size Wy w8) := Lib.hid (bt (Below.refl Wy.heap.size Wy).drew (Nat.le_refl _) hb8)
            have HD8 : Hid (DRow w8 Wy.heap.size (.slice A8 us7.length k8) us7 (gatT C (q : Int) ++ conT C (q : Int))) := Lib.hid (hd8.base (Nat.le_refl _))
            have HU8 : Hid (us7.length ≤ 100000) := Lib.hid (by rw [hd8.ul]; exact HBND.out.1 _)
            have HU9 : Hid ((us ++ us8).length ≤ 600000) := Lib.hid (by have := HSWy.out.2.2.ul; rw [this]; have := HDL2.out; omega)
            clear hb8 hd8
            refine hK.out _ _ (fun _ => ⟨HCB9.out _ (HSWy.out.1.trans (HB8.out.mono HSWy.out.1.size)), HSWy.out.2.1.below HB8.out HSWy.out.2.1.lt⟩) ?_
            clear hK K
            (try simp only [Act.put, List.setIfInBounds_toArray, List.set_cons_zero, List.set_cons_succ, List.getElem_toArray, List.getElem_cons_zero, List.getElem_cons_succ])
            refine wpAnyT_one (i := 5) rfl (by kernel_rfl) (fun K hK => ?_)
            refine step_append_any _ rfl (.tmp 73) (.tmp 76) _ rfl W5.heap.size 81 i0 _ 1 24 Try.underlying32 HI0.out.1 HI0.out.2.1 HI0.out.2.2.1 HI0.out.2.2.2 rfl (by omega) (.slice A9 L9 k9) _ _ (by first | rfl | (simp [Act.eval])) (own_below HSWy.out.2.2.own HB8.out) w8.heap.size A8 us7.length k8 us7 (by first | rfl | (simp [Act.eval])) (rowF _ _ _ _ _ HD8.out.row).2 HD8.out.one (by have := HU8.out; have := HU9.out; simp only [maxLen]; omega) (by have := HU8.out; have := HU9.out; omega) (Nat.le_trans HSWy.out.1.size HB8.out.size) ?_
            intro v9 w9 hown9 hg9 _
            obtain ⟨A9, L9, k9, e9⟩ : ∃ A L k, v9 = .slice A L k := by
              obtain ⟨A, c, e⟩ := own_slice_k hown9
              exact ⟨A, _, c, e⟩
            subst e9
            have HDU := Lib.hid (du_app HSWy.out.1 HSWy.out.1.size HGF.out HSWy.out.2.1 HSWy.out.2.2 HB8.out HD8.out hg9 hown9)
            clear hown9 hg9
            obtain ⟨g1, g2, g3⟩ := HDU.out.1
            refine hK.out _ _ (fun _ => ⟨HCB9.out _ HDU.out.2.1.1, HDU.out.2.1.2⟩) ?_
            clear hK K
            (try simp only [Act.put, List.setIfInBounds_toArray, List.set_cons_zero, List.set_cons_succ, List.getElem_toArray, List.getElem_cons_zero, List.getElem_cons_succ])
            refine wpAnyT_one (i := 6) rfl (by kernel_rfl) (fun K hK => ?_)
            go_simp
            refine hK.out _ _ (fun _ => ⟨HCB9.out _ HDU.out.2.1.1, HDU.out.2.1.2⟩) ?_
            clear hK K
            (try simp only [Act.put, List.setIfInBounds_toArray, List.set_cons_zero, List.set_cons_succ, List.getElem_toArray, List.getElem_cons_zero, List.getElem_cons_succ])
            refine wpAnyT_one (i := 7) rfl (by kernel_rfl) (fun K hK => ?_)
            go_simp
            refine hK.out _ _ (fun h => absurd h (by decide)) ?_
            clear hK K
            (try simp only [Act.put, List.setIfInBounds_toArray, List.set_cons_zero, List.set_cons_succ, List.getElem_toArray, List.getElem_cons_zero, List.getElem_cons_succ])
            clear g1 g2 g3
            refine wpAnyT_done (by kernel_rfl) ?_
            obtain ⟨Wz, hz9⟩ : ∃ x, w9.setCell ⟨gf, 1, none⟩ (.slice A9 L9 k9) = x := ⟨_, rfl⟩
            have HSWz := Lib.hid HDU.out.2.2
            rw [hz9] at HSWz
            rw [hz9]
            clear hz9 HDU HB8 HD8 HU8 HU9 HCB9
            go_wp2
            go_roundg (K + 1 - (q + 1))
            case measure => omega
            case rel => exact ⟨q + 1, _, _, by omega, rfl, by go_num, by have := HSWz.out; rwa [show docT C q ++ nxtT C ((q : Int) - 1) ++ (gatT C (q : Int) ++ conT C (q : Int)) = docT C (q + 1) by rw [HJ.out]; simp [docT, runT]] at this⟩
        · have hqe : q = K + 1 := by omega
          subst hqe
          obtain ⟨vA, vc, hve⟩ := own_slice_k HSwr.out.2.2.own
          subst hve
          have hk1 : ¬ ((K + 1 : Nat) : Int) < n := by push_cast; omega
          have hk2 : ¬ (K : Int) + 1 < n := by omega
          have f0 := HSwr.out.2.1.cell 0
          have f1 := HSwr.out.2.1.cell 1
          have HBW : Hid (Below W0.heap.size W0 wr) := Lib.hid (HB5.out.trans (HSwr.out.1.mono HB5.out.size))
          have HR1 := Lib.hid (H1.out.below HBW.out H1.out.lt)
          have r0 := HR1.out.cell 0
          have r1 := HR1.out.cell 1
          have rf0 := HR1.out.frozen 0
          have rf1 := HR1.out.frozen 1
          have rl := HR1.out.lt
          simp only [List.getElem?_toArray, List.getElem?_cons_zero, List.getElem?_cons_succ] at r0 r1
          simp only [List.getElem?_toArray, List.getElem?_cons_zero, List.getElem?_cons_succ] at f0 f1
          go_wp2
          have hw9 : Blk ((wr.setCell ⟨w.heap.size + 1, 0, none⟩ (.int .i64 vn)).setCell ⟨w.heap.size + 1, 1, none⟩ (.slice vA us.length vc)) (w.heap.size + 1) 34 #[.int .i64 vn, (.slice vA us.length vc)] := by
            have := (HR1.out.set_ 0 (.int .i64 vn)).set_ 1 (.slice vA us.length vc)
            simpa using this
          refine bodyPost_ret (results_cell_oneE (fn := Try.f36) (p := 4) (q := 5) rfl _ _ (w.heap.size + 1) 34 #[.int .i64 vn, (.slice vA us.length vc)] (0, 0) _ rfl hw9 Try.underlying34 rfl (by kernel_rfl) (.int .i64 0) rfl) rfl ?_
          rw [← hK, EFR.out, ERN.out, ERF.out]
          have hbw := bt HB0.out (Nat.le_refl _) HBW.out
          exact ⟨(hbw.setCell (by simp) _).setCell (by simp) _, _, rfl, us, (HSwr.out.2.2.far HR1.out (by decide) (by decide) (fun k _ hk => (Below.heap_setCell _ _ _ _ hk).trans (Below.heap_setCell _ _ _ _ hk))).base (by have := HB0.out.size; have := HBW.out.size; have := HB5.out.size; omega)⟩
  · have hq : (f != 0) = true := by simpa using h0
    have efr : fitR C n = f := by unfold fitR; rw [if_pos (by rw [hf]; exact h0)]; exact hf
    have ern : runN C n = 0 := if_neg (by rw [efr]; exact h0)
    have erf : runF C n = [] := if_neg (by rw [efr]; exact h0)
    rw [efr, ern, erf]
    clear efr ern erf h0 hf
    go_enter Try.func36, Try.ntmps36
    go_upto_region 1 with (fail)
    rw [HW0.out]
    go_wp2_with (first
      | (refine wpList_load_row rfl 29 (.tmp 2) rfl w.heap.size rfl 29 (V.cells C.max) (0, 0) _ HBX.out Try.underlying29 rfl (by kernel_rfl) ?_)
      | (go_at_call 25; refine HVA.out.mono ?_; rintro e w1 ⟨rfl, hb1⟩; have HB1 := Lib.hid hb1; clear hb1; have HR1 := Lib.hid (H1.out.below HB1.out H1.out.lt); have r0 := HR1.out.cell 0; have r1 := HR1.out.cell 1; have rf0 := HR1.out.frozen 0; have rf1 := HR1.out.frozen 1; have rl := HR1.out.lt; simp only [List.getElem?_toArray, List.getElem?_cons_zero, List.getElem?_cons_succ] at r0 r1))
    have hw9 : Blk ((w1.setCell ⟨w.heap.size + 1, 0, none⟩ (.int .i64 0)).setCell ⟨w.heap.size + 1, 1, none⟩ (.slice none 0 0)) (w.heap.size + 1) 34 #[.int .i64 0, (.slice none 0 0)] := by
      have := (HR1.out.set_ 0 (.int .i64 0)).set_ 1 (.slice none 0 0)
      simpa using this
    refine bodyPost_ret (results_cell_oneE (fn := Try.f36) (p := 4) (q := 5) rfl _ _ (w.heap.size + 1) 34 #[.int .i64 0, (.slice none 0 0)] (0, 0) _ rfl hw9 Try.underlying34 rfl (by kernel_rfl) (.int .i64 f) rfl) rfl ?_
    exact ⟨((bt HB0.out (Nat.le_refl _) HB1.out).setCell (by simp) _).setCell (by simp) _, _, [], rfl, drow_none _ _⟩
end Go.Proofs.Ytdodhbfplglbkaa

namespace Go.Proofs.Ytdodhbfplglbkaa
open Go.RowKit

set_option maxHeartbeats 20000000 in
set_option maxRecDepth 100000 in
theorem framesRuns_walk (w : World) (V : CV) (C : Circ) (n : Int) (h : C.In w V) (ok : C.Ok) (rm : C.Room ∧ C.Reach) :
    Calls Try.prog 5 #[V.val C.max, .int .i64 n] w fun e w' => e = .returned (.bool true) ∧ Below w.heap.size w w' := by
  obtain ⟨rm, re⟩ := rm
  obtain ⟨W0, hW0⟩ : ∃ W0, w.alloc (.cells (V.cells C.max) 29) = W0 := ⟨_, rfl⟩
  have hb0 : Below w.heap.size w W0 := by rw [← hW0]; exact (Below.refl _ _).alloc (Nat.le_refl _) _
  have hbx0 : Blk W0 w.heap.size 29 (V.cells C.max) := by rw [← hW0]; exact Blk.new w _ _
  have HW0 := Lib.hid hW0
  have HIN0 := Lib.hid (h.below hb0)
  have HB0 := Lib.hid hb0
  have HCO := Lib.hid (fun wx => cost_any wx V C n)
  have HLEND := Lib.hid (fun (wx : World) (hb : Below W0.heap.size W0 wx) => LendCircuit_any wx V C (HIN0.out.below hb) rm ⟨re.i, re.o, re.b, re.c, re.f, re.l, re.a⟩)
  obtain ⟨Vi, Vl, Vo, Vb, Vc, Vj, Vf, Va, Vs, Vt⟩ := V
  obtain ⟨m, hmm⟩ : ∃ m, C.max = m := ⟨_, rfl⟩
  have HPR := Lib.hid (fun (wx : World) (U : CV) (hx : C.In wx U) => fRun_any wx U C n hx ok)
  have HRR := Lib.hid (fun (wx : World) (hx : C.In wx ⟨Vi, Vl, Vo, Vb, Vc, Vj, Vf, Va, Vs, Vt⟩) => rfRun_any wx _ C n hx ok re.t)
  have HKEPT := Lib.hid (fun (wx : World) (B : Nat) (V U : CV) (us : List Value) (hl : LentC wx B C us V) (hx : C.In wx U) => KeptCircuit_any wx B V U C us hl hx)
  generalize runN C n = gn at *
  generalize runF C n = gf at *
  generalize fitR C n = ge at *
  obtain ⟨ce, hce⟩ : ∃ b, costF C n = b := ⟨_, rfl⟩
  rw [hce] at HCO
  have HSA := Lib.hid (fun (wx : World) (v u : Value) (hx : Lists wx v gf) (hy : Lists wx u gf) => SameCnf_any wx v u gf gf gn gn hx hy)
  rw [show (decide (gn = gn) && decide (gf = gf)) = true by simp] at HSA
  rw [hmm] at HLEND hbx0 HKEPT HPR HRR HCO HW0
  rw [hmm]
  have HBX0 := Lib.hid hbx0
  obtain ⟨c0, c1, c2, c3, c4, c5, c6, c7, c8, c9, c10⟩ := rbox_of hbx0
  have HCB := Lib.hid (fun (wx : World) (hb : Below W0.heap.size W0 wx) => rbox_of (HBX0.out.below hb HBX0.out.lt))
  clear h ok rm re hb0 hmm hbx0 hce hW0
  cases ce
  · go_enter Try.func5, Try.ntmps5
    go_upto_region 1 with (fail)
    rw [HW0.out]
    go_upto_region 3 with (go_at_call 34; refine (HCO.out _).mono ?_; rintro e wc ⟨rfl, hbc⟩; have HBC := Lib.hid hbc; clear hbc c0 c1 c2 c3 c4 c5 c6 c7 c8 c9 c10; obtain ⟨c0, c1, c2, c3, c4, c5, c6, c7, c8, c9, c10⟩ := HCB.out _ HBC.out)
    go_upto_region 4 with (go_at_call 9; refine (HLEND.out _ HBC.out).mono ?_; rintro e w1 ⟨U, us, rfl, hb1, hl1⟩; obtain ⟨Ui, Ul, Uo, Ub, Uc, Uj, Uf, Ua, Us, Ut⟩ := U; obtain ⟨A0, n0, k0, hf0⟩ := sl_formP hl1.in_.i; simp only at hf0; subst hf0; obtain ⟨A1, n1, k1, hf1⟩ := sl_formP hl1.in_.l; simp only at hf1; subst hf1; obtain ⟨A2, n2, k2, hf2⟩ := sl_formP hl1.in_.o; simp only at hf2; subst hf2; obtain ⟨A3, n3, k3, hf3⟩ := sl_formP hl1.in_.b; simp only at hf3; subst hf3; obtain ⟨A4, n4, k4, hf4⟩ := sl_formP hl1.in_.c; simp only at hf4; subst hf4; obtain ⟨A5, n5, k5, hf5⟩ := sl_formLP hl1.in_.j; simp only at hf5; subst hf5; obtain ⟨A6, n6, k6, hf6⟩ := sl_formP hl1.in_.f; simp only at hf6; subst hf6; obtain ⟨A7, n7, k7, hf7⟩ := sl_formP hl1.in_.a; simp only at hf7; subst hf7; obtain ⟨A8, n8, k8, hf8⟩ := sl_formP hl1.in_.s; simp only at hf8; subst hf8; obtain ⟨A9, n9, k9, hf9⟩ := sl_formP hl1.in_.t; simp only at hf9; subst hf9; have HL1 := Lib.hid hl1; have HB1 := Lib.hid hb1; clear hb1 hl1 c0 c1 c2 c3 c4 c5 c6 c7 c8 c9 c10)
    have HALL : Hid (∀ wz, Below (w1.alloc (.cells #[.int .i64 m, .slice A0 n0 k0, .slice A1 n1 k1, .slice A2 n2 k2, .slice A3 n3 k3, .slice A4 n4 k4, .slice A5 n5 k5, .slice A6 n6 k6, .slice A7 n7 k7, .slice A8 n8 k8, .slice A9 n9 k9] 29)).heap.size (w1.alloc (.cells #[.int .i64 m, .slice A0 n0 k0, .slice A1 n1 k1, .slice A2 n2 k2, .slice A3 n3 k3, .slice A4 n4 k4, .slice A5 n5 k5, .slice A6 n6 k6, .slice A7 n7 k7, .slice A8 n8 k8, .slice A9 n9 k9] 29)) wz → Blk wz w.heap.size 29 #[.int .i64 m, Vi, Vl, Vo, Vb, Vc, Vj, Vf, Va, Vs, Vt] ∧ Blk wz w1.heap.size 29 #[.int .i64 m, .slice A0 n0 k0, .slice A1 n1 k1, .slice A2 n2 k2, .slice A3 n3 k3, .slice A4 n4 k4, .slice A5 n5 k5, .slice A6 n6 k6, .slice A7 n7 k7, .slice A8 n8 k8, .slice A9 n9 k9] ∧ C.In wz ⟨Vi, Vl, Vo, Vb, Vc, Vj, Vf, Va, Vs, Vt⟩ ∧ LentC wz wc.heap.size C us ⟨.slice A0 n0 k0, .slice A1 n1 k1, .slice A2 n2 k2, .slice A3 n3 k3, .slice A4 n4 k4, .slice A5 n5 k5, .slice A6 n6 k6, .slice A7 n7 k7, .slice A8 n8 k8, .slice A9 n9 k9⟩ ∧ Below w.heap.size w wz) := Lib.hid (fun wz hb => by
      have h3 : Below w1.heap.size w1 wz := bt ((Below.refl w1.heap.size w1).alloc (Nat.le_refl _) _) (Nat.le_refl _) hb
      have h4 : Below W0.heap.size W0 wz := bt (bt HBC.out (Nat.le_refl _) HB1.out) (Nat.le_refl _) h3
      exact ⟨HBX0.out.below h4 HBX0.out.lt, (Blk.new w1 _ _).below hb (by simp), HIN0.out.below h4, HL1.out.below h3, HB0.out.trans (h4.mono HB0.out.size)⟩)
    have HX : Hid (Below (w1.alloc (.cells #[.int .i64 m, .slice A0 n0 k0, .slice A1 n1 k1, .slice A2 n2 k2, .slice A3 n3 k3, .slice A4 n4 k4, .slice A5 n5 k5, .slice A6 n6 k6, .slice A7 n7 k7, .slice A8 n8 k8, .slice A9 n9 k9] 29)).heap.size (w1.alloc (.cells #[.int .i64 m, .slice A0 n0 k0, .slice A1 n1 k1, .slice A2 n2 k2, .slice A3 n3 k3, .slice A4 n4 k4, .slice A5 n5 k5, .slice A6 n6 k6, .slice A7 n7 k7, .slice A8 n8 k8, .slice A9 n9 k9] 29)) (w1.alloc (.cells #[.int .i64 m, .slice A0 n0 k0, .slice A1 n1 k1, .slice A2 n2 k2, .slice A3 n3 k3, .slice A4 n4 k4, .slice A5 n5 k5, .slice A6 n6 k6, .slice A7 n7 k7, .slice A8 n8 k8, .slice A9 n9 k9] 29))) := Lib.hid (Below.refl _ _)
    clear HL1 HB1 HLEND HIN0 HB0 HBX0 HBC HCB
    generalize hg2 : w1.heap.size = g2 at *
    generalize w1.alloc (.cells #[.int .i64 m, .slice A0 n0 k0, .slice A1 n1 k1, .slice A2 n2 k2, .slice A3 n3 k3, .slice A4 n4 k4, .slice A5 n5 k5, .slice A6 n6 k6, .slice A7 n7 k7, .slice A8 n8 k8, .slice A9 n9 k9] 29) = X at *
    clear hg2
    obtain ⟨c0, c1, c2, c3, c4, c5, c6, c7, c8, c9, c10⟩ := rbox_of (HALL.out _ HX.out).1
    obtain ⟨d0, d1, d2, d3, d4, d5, d6, d7, d8, d9, d10⟩ := rbox_of (HALL.out _ HX.out).2.1
    go_upto_region 5 with (go_at_call 35; refine (HPR.out _ _ (HALL.out _ HX.out).2.2.2.1.in_).mono ?_; rintro e w3 ⟨hb, v, usa, rfl, ho⟩; obtain ⟨aA, ac, hve⟩ := own_slice_k ho.own; subst hve; have Ha := Lib.hid (ho.base HX.out.size); clear ho; have HXN := Lib.hid (bt HX.out (Nat.le_refl _) hb); clear HX c0 c1 c2 c3 c4 c5 c6 c7 c8 c9 c10 d0 d1 d2 d3 d4 d5 d6 d7 d8 d9 d10; have HX := HXN; clear HXN; obtain ⟨c0, c1, c2, c3, c4, c5, c6, c7, c8, c9, c10⟩ := rbox_of (HALL.out _ HX.out).1; obtain ⟨d0, d1, d2, d3, d4, d5, d6, d7, d8, d9, d10⟩ := rbox_of (HALL.out _ HX.out).2.1; clear hb)
    have HXN := Lib.hid (HX.out.alloc HX.out.size (.cells #[.int .i64 gn, .slice aA usa.length ac] 34))
    have Ta := Lib.hid (Ha.out.below ((Below.refl w3.heap.size w3).alloc (Nat.le_refl _) (.cells #[.int .i64 gn, .slice aA usa.length ac] 34)))
    have HFa := Lib.hid (Blk.new w3 34 #[.int .i64 gn, .slice aA usa.length ac])
    clear HX c0 c1 c2 c3 c4 c5 c6 c7 c8 c9 c10 d0 d1 d2 d3 d4 d5 d6 d7 d8 d9 d10 Ha 
    have HX := HXN
    clear HXN
    have Ha := Ta
    clear Ta
    generalize w3.heap.size = ga at *
    generalize w3.alloc (.cells #[.int .i64 gn, .slice aA usa.length ac] 34) = Wa at *
    have HA0 := Ha
    have HW := Lib.hid (Below.refl Wa.heap.size Wa)
    have a0 := HFa.out.cell 0
    have a1 := HFa.out.cell 1
    simp only [List.getElem?_toArray, List.getElem?_cons_zero, List.getElem?_cons_succ] at a0 a1
    obtain ⟨c0, c1, c2, c3, c4, c5, c6, c7, c8, c9, c10⟩ := rbox_of (HALL.out _ HX.out).1
    obtain ⟨d0, d1, d2, d3, d4, d5, d6, d7, d8, d9, d10⟩ := rbox_of (HALL.out _ HX.out).2.1
    go_upto_region 6 with (go_at_call 36; refine (HRR.out _ (HALL.out _ HX.out).2.2.1).mono ?_; rintro e w4 ⟨hb, v, usb, rfl, ho⟩; obtain ⟨bA, bc, hve⟩ := own_slice_k ho.own; subst hve; have Hb := Lib.hid (ho.base HX.out.size); clear ho; have T := Lib.hid (Ha.out.below hb); clear Ha; have Ha := T; clear T; have T := Lib.hid (HFa.out.below hb HFa.out.lt); clear HFa a0 a1; have HFa := T; clear T; have a0 := HFa.out.cell 0; have a1 := HFa.out.cell 1; simp only [List.getElem?_toArray, List.getElem?_cons_zero, List.getElem?_cons_succ] at a0 a1; have T := Lib.hid (bt HW.out (Nat.le_refl _) hb); clear HW; have HW := T; clear T; have HXN := Lib.hid (bt HX.out (Nat.le_refl _) hb); clear HX c0 c1 c2 c3 c4 c5 c6 c7 c8 c9 c10 d0 d1 d2 d3 d4 d5 d6 d7 d8 d9 d10; have HX := HXN; clear HXN; obtain ⟨c0, c1, c2, c3, c4, c5, c6, c7, c8, c9, c10⟩ := rbox_of (HALL.out _ HX.out).1; obtain ⟨d0, d1, d2, d3, d4, d5, d6, d7, d8, d9, d10⟩ := rbox_of (HALL.out _ HX.out).2.1; clear hb)
    have HXN := Lib.hid (HX.out.alloc HX.out.size (.cells #[.int .i64 gn, .slice bA usb.length bc] 34))
    have Ta := Lib.hid (Ha.out.below ((Below.refl w4.heap.size w4).alloc (Nat.le_refl _) (.cells #[.int .i64 gn, .slice bA usb.length bc] 34)))
    have Tb := Lib.hid (Hb.out.below ((Below.refl w4.heap.size w4).alloc (Nat.le_refl _) (.cells #[.int .i64 gn, .slice bA usb.length bc] 34)))
    have TFa := Lib.hid (HFa.out.alloc (.cells #[.int .i64 gn, .slice bA usb.length bc] 34))
    have HFb := Lib.hid (Blk.new w4 34 #[.int .i64 gn, .slice bA usb.length bc])
    have HWN := Lib.hid (HW.out.alloc HW.out.size (.cells #[.int .i64 gn, .slice bA usb.length bc] 34))
    clear HX c0 c1 c2 c3 c4 c5 c6 c7 c8 c9 c10 d0 d1 d2 d3 d4 d5 d6 d7 d8 d9 d10 Ha Hb HFa a0 a1 HW
    have HX := HXN
    clear HXN
    have Ha := Ta
    clear Ta
    have Hb := Tb
    clear Tb
    have HFa := TFa
    clear TFa
    have HW := HWN
    clear HWN
    generalize w4.heap.size = gb at *
    generalize w4.alloc (.cells #[.int .i64 gn, .slice bA usb.length bc] 34) = Wb at *
    have a0 := HFa.out.cell 0
    have a1 := HFa.out.cell 1
    simp only [List.getElem?_toArray, List.getElem?_cons_zero, List.getElem?_cons_succ] at a0 a1
    have b0 := HFb.out.cell 0
    have b1 := HFb.out.cell 1
    simp only [List.getElem?_toArray, List.getElem?_cons_zero, List.getElem?_cons_succ] at b0 b1
    obtain ⟨c0, c1, c2, c3, c4, c5, c6, c7, c8, c9, c10⟩ := rbox_of (HALL.out _ HX.out).1
    obtain ⟨d0, d1, d2, d3, d4, d5, d6, d7, d8, d9, d10⟩ := rbox_of (HALL.out _ HX.out).2.1
    have hge : (ge != ge) = false := by simp
    go_upto_region 8 with (go_at_call 17; refine (HSA.out _ _ _ Ha.out.lists Hb.out.lists).mono ?_; rintro e w10 ⟨rfl, hb⟩; have T := Lib.hid (Ha.out.below hb); clear Ha; have Ha := T; clear T; have T := Lib.hid (Hb.out.below hb); clear Hb; have Hb := T; clear T; have T := Lib.hid (HFa.out.below hb HFa.out.lt); clear HFa a0 a1; have HFa := T; clear T; have a0 := HFa.out.cell 0; have a1 := HFa.out.cell 1; simp only [List.getElem?_toArray, List.getElem?_cons_zero, List.getElem?_cons_succ] at a0 a1; have T := Lib.hid (HFb.out.below hb HFb.out.lt); clear HFb b0 b1; have HFb := T; clear T; have b0 := HFb.out.cell 0; have b1 := HFb.out.cell 1; simp only [List.getElem?_toArray, List.getElem?_cons_zero, List.getElem?_cons_succ] at b0 b1; have T := Lib.hid (bt HW.out (Nat.le_refl _) hb); clear HW; have HW := T; clear T; have HXN := Lib.hid (bt HX.out (Nat.le_refl _) hb); clear HX c0 c1 c2 c3 c4 c5 c6 c7 c8 c9 c10 d0 d1 d2 d3 d4 d5 d6 d7 d8 d9 d10; have HX := HXN; clear HXN; obtain ⟨c0, c1, c2, c3, c4, c5, c6, c7, c8, c9, c10⟩ := rbox_of (HALL.out _ HX.out).1; obtain ⟨d0, d1, d2, d3, d4, d5, d6, d7, d8, d9, d10⟩ := rbox_of (HALL.out _ HX.out).2.1; clear hb)
    go_upto_region 9 with (go_at_call 18; refine (SpoilCnf_any Wa _ _ _ _ _ _ _ HA0.out Ha.out HW.out.size).mono ?_; rintro e w12 ⟨rfl, hk⟩; have HXN := Lib.hid (KeepX.below HX.out hk HX.out.size (fun _ h => h.1)); clear HX HW c0 c1 c2 c3 c4 c5 c6 c7 c8 c9 c10 d0 d1 d2 d3 d4 d5 d6 d7 d8 d9 d10; have HX := HXN; clear HXN; obtain ⟨c0, c1, c2, c3, c4, c5, c6, c7, c8, c9, c10⟩ := rbox_of (HALL.out _ HX.out).1; obtain ⟨d0, d1, d2, d3, d4, d5, d6, d7, d8, d9, d10⟩ := rbox_of (HALL.out _ HX.out).2.1; clear hk a0 a1 b0 b1)
    clear Ha Hb HA0 HFa HFb
    go_wp2_with (first
      | (go_at_call 19; refine (HKEPT.out _ _ _ _ _ (HALL.out _ HX.out).2.2.2.1 (HALL.out _ HX.out).2.2.1).mono ?_; rintro e w14 ⟨rfl, hb⟩; have HXN := Lib.hid (bt HX.out (Nat.le_refl _) hb); clear HX c0 c1 c2 c3 c4 c5 c6 c7 c8 c9 c10 d0 d1 d2 d3 d4 d5 d6 d7 d8 d9 d10; have HX := HXN; clear HXN; obtain ⟨c0, c1, c2, c3, c4, c5, c6, c7, c8, c9, c10⟩ := rbox_of (HALL.out _ HX.out).1; obtain ⟨d0, d1, d2, d3, d4, d5, d6, d7, d8, d9, d10⟩ := rbox_of (HALL.out _ HX.out).2.1; clear hb)
      | (go_at_call 33; refine (worksF_any _).mono ?_; rintro e w16 ⟨rfl, hb⟩; have HXN := Lib.hid (bt HX.out (Nat.le_refl _) hb); clear HX c0 c1 c2 c3 c4 c5 c6 c7 c8 c9 c10 d0 d1 d2 d3 d4 d5 d6 d7 d8 d9 d10; have HX := HXN; clear HXN; obtain ⟨c0, c1, c2, c3, c4, c5, c6, c7, c8, c9, c10⟩ := rbox_of (HALL.out _ HX.out).1; obtain ⟨d0, d1, d2, d3, d4, d5, d6, d7, d8, d9, d10⟩ := rbox_of (HALL.out _ HX.out).2.1; clear hb))
    go_ret
    exact ⟨rfl, (HALL.out _ HX.out).2.2.2.2⟩
  · go_enter Try.func5, Try.ntmps5
    go_upto_region 1 with (fail)
    rw [HW0.out]
    go_wp2_with (first
      | (go_at_call 34; refine (HCO.out _).mono ?_; rintro e wc ⟨rfl, hbc⟩; have HBC := Lib.hid hbc; clear hbc c0 c1 c2 c3 c4 c5 c6 c7 c8 c9 c10)
      | (go_at_call 33; refine (worksF_any _).mono ?_; rintro e w2 ⟨rfl, hb2⟩; have HB2 := Lib.hid hb2; clear hb2))
    go_ret
    exact ⟨rfl, bt (bt HB0.out (Nat.le_refl _) HBC.out) (Nat.le_refl _) HB2.out⟩
end Go.Proofs.Ytdodhbfplglbkaa

namespace Go.Proofs.Ytdodhbfplglbkaa
open Go.ChangeShapes Go.WideShapes Go.ChangeAt Go.RowKit

set_option maxRecDepth 100000 in
theorem framesRuns_lifted (os : Os) (started : os.Started) (H : Type) (enc : TypeId × Value → H) :
    ReturnsInHanded {} Try.checked os 5 .any (Rows.framesRunsSpec.pre6 enc Try.prog Try.f5 Rows.framesRunsRow.domain false) (Rows.framesRunsSpec.post enc Try.prog Try.f5 false true false false) := by
  refine returnsInHanded_of_change_sized (C := Try.checked) ownNone started (by kernel_rfl) Try.func5
    (ChangeSpec.witness6 (enc := enc) (C := Try.checked) false ⟨#[], #[.agg #[.int .i64 0, .slice none 0 0, .slice none 0 0, .slice none 0 0, .slice none 0 0, .slice none 0 0, .slice none 0 0, .slice none 0 0, .slice none 0 0, .slice none 0 0, .slice none 0 0], .int .i64 0], []⟩ 8 (by kernel_rfl) (by kernel_rfl) (by kernel_rfl) (by kernel_rfl)) ?_
  intro W base args ds gs before hval0 hW _ hsz0 _
  have hsz : (DataW.weightsEach Try.prog (Try.f5.params.toList ++ Rows.framesRunsSpec.plain.varTypes Try.prog) (ds ++ gs)).all (· ≤ reachBytes) = true := hsz0
  have hval : ∀ (j : Nat) t v, Try.f5.params[j]? = some t → args[j]? = some v → Value.okWide Try.prog W .any base t v := hval0
  have hW' := hW
  obtain ⟨p, q, hA0, hV, rfl, hfz, hnd⟩ := hW
  have hA : DataW.TrodAll enc Try.prog W 0 (fun _ => true) true Try.f5.params.toList args.toList ds p := hA0
  have hA1 := hA
  rw [Try.params5] at hA hval hsz
  obtain ⟨v0, v1, d0, d1, p0, p1, rfl, rfl, rfl, h0, h1⟩ := trodAll_two hA
  obtain ⟨rfl, rfl⟩ := trodVars_none hV
  clear hA0 hval0 hsz0
  try simp only [List.append_nil] at hW'
  have hlt : ∀ x ∈ p0 ++ p1, x.block < W.heap.size := fun x hx => hW'.lt x (by simpa using hx)
  obtain ⟨V0, C0, rfl, hin0, hok0, hrm0⟩ := arg_circR (hval 0 29 v0 rfl rfl) h0 (fun x hx => hlt x (by simp [hx])) (each_all hsz (j := 0) rfl rfl)
  obtain ⟨a1, rfl, hai1⟩ := arg_int (hval 1 3 v1 rfl rfl) h1
  refine (framesRuns_walk W V0 C0 a1 hin0 hok0 hrm0).mono fun e W' ⟨he, hbw⟩ => ?_
  subst he
  exact ⟨_, rfl, law_post rfl (by rw [Try.params5]; exact of_decide_eq_true (by kernel_rfl)) rfl hW' hA1 hlt rfl rfl rfl hbw⟩

theorem framesRuns_over : Rows.framesRunsRow.holds Try.pinned (OpenSpec.ofChange Rows.framesRunsSpec) :=
  OpenClaim.holds_of_wide 5 Try.f5 rfl rfl rfl rfl rfl rfl rfl ⟨rfl, rfl, rfl, rfl, rfl⟩ rfl rfl rfl rfl rfl (by kernel_rfl) Try.func5 (by kernel_rfl)
    (of_decide_eq_true (by kernel_rfl)) (by unfold Func.isWrapper; first | (rw [if_pos (by decide +kernel)]; kernel_rfl) | (rw [if_neg (by decide +kernel)]; exact ⟨rfl, rfl⟩))
    (fun os started H enc _ => framesRuns_lifted os started H enc)

/-- FramesRuns: for every circuit, number the statement's Go function returns true and leaves its arguments as they were. No condition. -/
theorem framesRuns_holds : Rows.FramesRunsSaid := framesRuns_over
#print axioms framesRuns_holds
end Go.Proofs.Ytdodhbfplglbkaa

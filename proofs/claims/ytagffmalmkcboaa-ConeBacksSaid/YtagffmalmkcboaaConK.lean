/- Cone: the statements' own example: trestlelaw10.works answers true in whatever world. -/
import Derived.Test.YtagffmalmkcboaaConH
namespace Go.Proofs.Ytagffmalmkcboaa
open Go.RowKit Go.Maps

theorem results_cell_one {fn : Func} {p q : Tmp} {ty : TypeId} {P : Program} (h : fn.results = #[.cell p ty, .tmp q]) (tmps : Array Value) (w : World) (g : Nat) (t : TypeId) (cs : Array Value) (fr : Nat × Nat) (d : TypeDesc)
    (hp : tmps.getD p undef = .pointer (some ⟨g, 0, none⟩)) (hg : w.heap[g]? = some (.cells cs t fr))
    (hu : P.underlying ty = some d) (hd : (match d with | .struct _ | .array _ _ => true | _ => false) = true) (hi : (P.info? ty).map (·.size) = some cs.size) (v : Value) (hv : tmps.getD q undef = v) :
    (results fn tmps).run P w = .ok (.tuple #[.agg cs, v]) w := by
  have hp' : tmps[p]?.getD undef = .pointer (some ⟨g, 0, none⟩) := by simpa using hp
  subst hv
  have hl := run_loadVar_row w g t ty cs fr d hg hu (by cases d <;> first | rfl | exact hd) hi
  simp [results, h, hp', asAddr, hl]
abbrev cut0 : Array Value := #[.int .i64 0, .slice none 0 0, .slice none 0 0, .slice none 0 0, .slice none 0 0, .slice none 0 0, .slice none 0 0, .slice none 0 0, .slice none 0 0, .slice none 0 0, .slice none 0 0, .slice none 0 0, .slice none 0 0, .slice none 0 0]
theorem props_row (w : World) (ps : List (Int × Int)) (hl : ps.length ≤ 100) : RowE 2 encPr (w.alloc (.cells (ps.flatMap encPr).toArray 31)) (.slice (some ⟨w.heap.size, 0, none⟩) ps.length ps.length) ps := by
  refine ⟨some ⟨w.heap.size, 0, none⟩, ps.length, rfl, Nat.le_refl _, by simp [maxLen]; omega, fun i z hz => ⟨w.heap.size, 0, rfl, by simp, fun j u hu => ?_⟩⟩
  rw [(Blk.new w 31 (ps.flatMap encPr).toArray).cell, List.getElem?_toArray, Nat.zero_add]
  have hj : j < 2 := by
    have := (List.getElem?_eq_some_iff.1 hu).1
    simpa using this
  rw [flat_get (enc := encPr) (k := 2) lenPr ps i z hz j hj]
  exact hu
theorem hasP_bad {C : Circ} {a : Int} (h : hasP C (98, a) = true) : 0 ≤ a ∧ a.toNat < C.bads.length := by
  unfold hasP cntP at h
  simp at h
  omega

set_option maxHeartbeats 8000000 in
set_option maxRecDepth 100000 in
theorem OfB_any (w : World) (V : CV) (C : Circ) (a : Int) (h : C.In w V) (ok : C.Ok) :
    Calls Try.prog 6 #[V.val C.max, .agg #[.int .u8 98, .int .i64 a]] w fun e w' => Below w.heap.size w w' ∧ ∃ cs, e = .returned (.tuple #[.agg cs, .int .i64 (propsE C [(98, a)])]) ∧ (propsE C [(98, a)] ≠ 0 → cs = cut0) ∧
      (propsE C [(98, a)] = 0 → ∃ (V' : CV) (lv iv tv : Value), cs = cutCells V' (cutX C (conB C a.toNat) a.toNat).max lv iv tv ∧ CutR w.heap.size w' V' lv iv tv C (conB C a.toNat) a.toNat) := by
  obtain ⟨W2, hW2⟩ : ∃ W2, ((w.alloc (.cells (V.cells C.max) 29)).alloc (.cells #[.int .u8 98, .int .i64 a] 31)).alloc (.cells cut0 34) = W2 := ⟨_, rfl⟩
  have HW2 := Lib.hid hW2
  have hB2 : Below w.heap.size w W2 := by rw [← hW2]; exact (((Below.refl _ _).alloc (Nat.le_refl _) _).alloc (by simp) _).alloc (by simp; omega) _
  have hX2 : Blk W2 w.heap.size 29 (V.cells C.max) := by rw [← hW2]; exact ((Blk.new w _ _).alloc _).alloc _
  have hP2 : Blk W2 (w.heap.size + 1) 31 #[.int .u8 98, .int .i64 a] := by
    rw [← hW2]
    have := (Blk.new (w.alloc (.cells (V.cells C.max) 29)) 31 #[.int .u8 98, .int .i64 a]).alloc (.cells cut0 34)
    rwa [show (w.alloc (.cells (V.cells C.max) 29)).heap.size = w.heap.size + 1 by simp] at this
  have hQ2 : Blk W2 (w.heap.size + 1 + 1) 34 cut0 := by
    rw [← hW2]
    have := Blk.new ((w.alloc (.cells (V.cells C.max) 29)).alloc (.cells #[.int .u8 98, .int .i64 a] 31)) 34 cut0
    rwa [show ((w.alloc (.cells (V.cells C.max) 29)).alloc (.cells #[.int .u8 98, .int .i64 a] 31)).heap.size = w.heap.size + 1 + 1 by simp] at this
  have HB2 := Lib.hid hB2
  have HX2 := Lib.hid hX2
  have HP2 := Lib.hid hP2
  have HQ2 := Lib.hid hQ2
  have HXH : Hid (∀ wz, Below W2.heap.size W2 wz → wz.heap[w.heap.size]? = some (.cells (V.cells C.max) 29 (0, 0)) ∧ wz.heap[w.heap.size + 1]? = some (.cells #[.int .u8 98, .int .i64 a] 31 (0, 0)) ∧ wz.heap[w.heap.size + 1 + 1]? = some (.cells cut0 34 (0, 0))) := Lib.hid (fun wz hz => ⟨HX2.out.below hz HX2.out.lt, HP2.out.below hz HP2.out.lt, HQ2.out.below hz HQ2.out.lt⟩)
  have HIN := Lib.hid (fun wz (hz : Below W2.heap.size W2 wz) => h.below (bt hB2 (Nat.le_refl _) hz))
  have HBF := Lib.hid (Below.refl W2.heap.size W2)
  have HBA : Hid (Below W2.heap.size W2 (W2.alloc (.cells #[.int .u8 98, .int .i64 a] 31))) := Lib.hid ((Below.refl _ _).alloc (Nat.le_refl _) _)
  have HROW : Hid (RowE 2 encPr (W2.alloc (.cells #[.int .u8 98, .int .i64 a] 31)) (.slice (some ⟨W2.heap.size, 0, none⟩) 1 1) [(98, a)]) := Lib.hid (props_row W2 [(98, a)] (by simp))
  have HCP := Lib.hid (checkProps_any (W2.alloc (.cells #[.int .u8 98, .int .i64 a] 31)) V C (.slice (some ⟨W2.heap.size, 0, none⟩) 1 1) [(98, a)] (HIN.out _ HBA.out) ok HROW.out (by simp))
  have hw2 : w.heap.size ≤ W2.heap.size := hB2.size
  have hbz : ∀ wx : World, (Instr.build 34 #[]).run Try.prog wx = .ok (.agg cut0) wx := fun wx => run_build wx _ _ _ (by kernel_rfl)
  clear hX2 hP2 hQ2 hW2 h ok HX2 HP2
  by_cases h0 : propsE C [(98, a)] = 0
  · obtain ⟨hz, hps⟩ := propsE_ok h0
    obtain ⟨ha0, ha1⟩ := hasP_bad (hps (98, a) (by simp))
    obtain ⟨k, rfl⟩ : ∃ k : Nat, a = (k : Int) := ⟨a.toNat, by omega⟩
    rw [show ((k : Int).toNat) = k by omega] at ha1 ⊢
    have HCO := Lib.hid (fun wz (hb : Below W2.heap.size W2 wz) => coneB_any wz V C k (HIN.out wz hb) hz ha1)
    have HCU := Lib.hid (fun wz (g : Nat) (hb : Below W2.heap.size W2 wz) (ht : Tab wz g (conB C k)) => cutB_any wz V C k g (conB C k) (HIN.out wz hb) hz ha1 ht (conB_len C k))
    rw [h0] at HCP ⊢
    obtain ⟨nx, hnx⟩ : ∃ nx, C.max.toNat + 1 = nx := ⟨_, rfl⟩
    rw [hnx] at HCO HCU
    clear hz hps ha0 ha1 h0 hnx
    obtain ⟨Vi, Vl, Vo, Vb, Vc, Vj, Vf, Va, Vs, Vt⟩ := V
    have HC : Hid (∀ wz, Below W2.heap.size W2 wz → wz.cell? ⟨w.heap.size, 0, none⟩ = some (.int .i64 C.max) ∧ wz.cell? ⟨w.heap.size, 1, none⟩ = some Vi ∧ wz.cell? ⟨w.heap.size, 2, none⟩ = some Vl ∧ wz.cell? ⟨w.heap.size, 3, none⟩ = some Vo ∧ wz.cell? ⟨w.heap.size, 4, none⟩ = some Vb ∧ wz.cell? ⟨w.heap.size, 5, none⟩ = some Vc ∧ wz.cell? ⟨w.heap.size, 6, none⟩ = some Vj ∧ wz.cell? ⟨w.heap.size, 7, none⟩ = some Vf ∧ wz.cell? ⟨w.heap.size, 8, none⟩ = some Va ∧ wz.cell? ⟨w.heap.size, 9, none⟩ = some Vs ∧ wz.cell? ⟨w.heap.size, 10, none⟩ = some Vt ∧ wz.cell? ⟨w.heap.size + 1, 0, none⟩ = some (.int .u8 98) ∧ wz.cell? ⟨w.heap.size + 1, 1, none⟩ = some (.int .i64 k)) := Lib.hid (fun wz hz => by
      obtain ⟨q1, q2, _⟩ := HXH.out wz hz
      have q1 : Blk wz w.heap.size 29 _ := q1
      have q2 : Blk wz (w.heap.size + 1) 31 _ := q2
      exact ⟨q1.cell 0, q1.cell 1, q1.cell 2, q1.cell 3, q1.cell 4, q1.cell 5, q1.cell 6, q1.cell 7, q1.cell 8, q1.cell 9, q1.cell 10, q2.cell 0, q2.cell 1⟩)
    go_enter Try.func6, Try.ntmps6
    go_upto_region 1 with (fail)
    rw [HW2.out]
    have HH := Lib.hid (HXH.out W2 HBF.out)
    go_upto_region 4 with (first
      | (refine wpList_load_row rfl 29 (.tmp 2) rfl w.heap.size rfl 29 (({ i := Vi, l := Vl, o := Vo, b := Vb, c := Vc, j := Vj, f := Vf, a := Va, s := Vs, t := Vt } : CV).cells C.max) (0, 0) _ HH.out.1 Try.underlying29 rfl (by kernel_rfl) ?_)
      | (refine wpList_load_row rfl 31 (.tmp 3) rfl (w.heap.size + 1) rfl 31 #[.int .u8 98, .int .i64 k] (0, 0) _ HH.out.2.1 Try.underlying31 rfl (by kernel_rfl) ?_)
      | (go_at_call 26; refine HCP.out.mono ?_; rintro e w3 ⟨rfl, hb3⟩; have HB3 := Lib.hid (bt HBA.out (Nat.le_refl _) hb3); clear hb3))
    refine wp_region_T (by kernel_rfl) (fun wz => wz.cell? ⟨w.heap.size, 0, none⟩ = some (.int .i64 C.max) ∧ wz.cell? ⟨w.heap.size, 1, none⟩ = some Vi ∧ wz.cell? ⟨w.heap.size, 2, none⟩ = some Vl ∧ wz.cell? ⟨w.heap.size, 3, none⟩ = some Vo ∧ wz.cell? ⟨w.heap.size, 4, none⟩ = some Vb ∧ wz.cell? ⟨w.heap.size, 5, none⟩ = some Vc ∧ wz.cell? ⟨w.heap.size, 6, none⟩ = some Vj ∧ wz.cell? ⟨w.heap.size, 7, none⟩ = some Vf ∧ wz.cell? ⟨w.heap.size, 8, none⟩ = some Va ∧ wz.cell? ⟨w.heap.size, 9, none⟩ = some Vs ∧ wz.cell? ⟨w.heap.size, 10, none⟩ = some Vt ∧ wz.cell? ⟨w.heap.size + 1, 0, none⟩ = some (.int .u8 98) ∧ wz.cell? ⟨w.heap.size + 1, 1, none⟩ = some (.int .i64 k)) 6 ?_
    have HD0 : Hid (Below W2.heap.size W2 w3.drew) := Lib.hid HB3.out.drew
    have hHeld := HC.out _ HD0.out
    refine wpAnyT_take (i := 0) (v := ?v0r4q1) rfl (by kernel_rfl) (fun _ _ _ h => h) (by rfl) hHeld ?h0r4q1 ?_
    case h0r4q1 => (intro w' hSw; (try dsimp only at hSw); go_simp; try with_reducible rfl)
    (try simp only [Act.put, List.setIfInBounds_toArray])
    refine wpAnyT_take (i := 1) (v := ?v1r4q1) rfl (by kernel_rfl) (fun _ _ _ h => h) (by rfl) hHeld ?h1r4q1 ?_
    case h1r4q1 => (intro w' hSw; (try dsimp only at hSw); go_simp; try with_reducible rfl)
    (try simp only [Act.put])
    refine wpAnyT_take (i := 2) (v := ?v2r4q1) rfl (by kernel_rfl) (fun _ _ _ h => h) (by rfl) hHeld ?h2r4q1 ?_
    case h2r4q1 => (intro w' hSw; (try dsimp only at hSw); go_simp; try with_reducible rfl)
    (try simp only [Act.put])
    refine wpAnyT_take (i := 3) (v := ?v3r4q1) rfl (by kernel_rfl) (fun _ _ _ h => h) (by rfl) hHeld ?h3r4q1 ?_
    case h3r4q1 => (intro w' hSw; (try dsimp only at hSw); go_simp; try with_reducible rfl)
    (try simp only [Act.put])
    clear hHeld
    refine wpAnyT_one (i := 4) rfl (by kernel_rfl) (fun K hK => ?_)
    go_simp
    go_at_call 28
    refine (HCO.out _ HD0.out).mono ?_
    rintro e w4 ⟨g, rfl, hg4, hb4, ht4⟩
    have HB4 := Lib.hid (bt HD0.out (Nat.le_refl _) hb4)
    have HT4 := Lib.hid ht4
    refine hK.out _ _ (fun _ => HC.out _ HB4.out) ?_
    clear hK K hb4 ht4
    (try simp only [Act.put, zA, zB, zC])
    refine wpAnyT_one (i := 5) rfl (by kernel_rfl) (fun K hK => ?_)
    go_simp
    go_at_call 27
    refine (HCU.out _ g HB4.out HT4.out).mono ?_
    rintro e w5 ⟨V', lv, iv, tv, rfl, hb5, hcr⟩
    have HB5 := Lib.hid (bt HB4.out (Nat.le_refl _) hb5)
    have HCR := Lib.hid hcr
    have HS45 : Hid (W2.heap.size ≤ w4.heap.size) := Lib.hid HB4.out.size
    refine hK.out _ _ (fun _ => HC.out _ HB5.out) ?_
    clear hK K hb5 hcr
    (try simp only [Act.put, zA, zB, zC])
    have HON : Hid ((cutCells V' (cutX C (conB C k) k).max lv iv tv).all (·.oneCell') = true) := Lib.hid (by
      have hc := HCR.out
      obtain ⟨A1, c1, e1⟩ := own_slice1 hc.i
      obtain ⟨A2, c2, e2⟩ := own_slice1 hc.l
      obtain ⟨A4, c4, e4⟩ := own_slice1 hc.b
      obtain ⟨A5, c5, e5⟩ := own_slice1 hc.c
      obtain ⟨A8, c8, e8⟩ := own_slice1 hc.a
      obtain ⟨gm, em, _, _⟩ := hc.m
      obtain ⟨Ai, ci, ei⟩ := own_slice1 hc.iv
      obtain ⟨At, ct, et⟩ := own_slice1 hc.tv
      simp [cutCells, e1, e2, e4, e5, e8, em, ei, et, hc.zo, hc.zj, hc.zf, hc.zs, hc.zt, Value.oneCell'])
    obtain ⟨CY, hCY⟩ : ∃ CY : Array Value, cutCells V' (cutX C (conB C k) k).max lv iv tv = CY := ⟨_, rfl⟩
    have HSZ : Hid (CY.size = 14) := Lib.hid (by rw [← hCY]; rfl)
    have HCY := Lib.hid hCY
    have hsi : (Try.prog.info? 34).map (·.size) = some CY.size := by rw [HSZ.out]; kernel_rfl
    rw [hCY] at HON ⊢
    refine wpAnyT_one (i := 6) rfl (by kernel_rfl) (fun K hK => ?_)
    refine step_store_row rfl 34 (.tmp 4) (.tmp 20) rfl (w.heap.size + 1 + 1) CY rfl rfl 34 cut0 (HXH.out w5 HB5.out).2.2 hsi (by rw [HSZ.out]; rfl) HON.out ?_
    refine hK.out _ _ (fun h => absurd h (by decide)) ?_
    clear hK K
    (try simp only [Act.put])
    refine wpAnyT_one (i := 7) rfl (by kernel_rfl) (fun K hK => ?_)
    go_simp
    refine hK.out _ _ (fun h => absurd h (by decide)) ?_
    clear hK K
    (try simp only [Act.put, zA, zB, zC])
    refine wpAnyT_done (by kernel_rfl) ?_
    have hw10 : Blk (w5.setRow (w.heap.size + 1 + 1) CY) (w.heap.size + 1 + 1) 34 CY := setRow_heap w5 (w.heap.size + 1 + 1) _ CY _ _ (HXH.out w5 HB5.out).2.2
    go_wp2
    refine bodyPost_ret (results_cell_one (fn := Try.f6) (p := 4) (q := 5) rfl _ _ (w.heap.size + 1 + 1) 34 CY (0, 0) _ rfl hw10 Try.underlying34 rfl hsi (.int .i64 0) rfl) rfl ?_
    have hbf : Below w.heap.size w (w5.setRow (w.heap.size + 1 + 1) CY) := (bt HB2.out (Nat.le_refl _) HB5.out).trans ⟨rfl, rfl, rfl, by rw [size_setRow]; exact Nat.le_refl _, fun k hk => setRow_other _ _ _ _ (by omega)⟩
    have hQ5 : Blk w5 (w.heap.size + 1 + 1) 34 cut0 := (HXH.out w5 HB5.out).2.2
    have hne : ∀ {B : Nat} {t : TypeId} {k n : Nat} {v : Value} {xs : List Value}, w5.ownsRow B t k v n xs → t ≠ 34 → (w5.setRow (w.heap.size + 1 + 1) CY).ownsRow B t k v n xs := fun ho ht =>
      own_of_block ho fun g9 hg9 => setRow_other _ _ _ _ (fun e => own_blk_ne ho hQ5 ht (by rw [hg9, e]))
    have hle : w.heap.size ≤ w4.heap.size := Nat.le_trans hw2 HS45.out
    have hc := HCR.out
    refine ⟨hbf, CY, rfl, fun h => absurd rfl h, fun _ => ⟨V', lv, iv, tv, hCY.symm, ?_⟩⟩
    obtain ⟨gm, em, hgm, hnm⟩ := hc.m
    exact ⟨hne (own_le hc.i hle) (by decide), hne (own_le hc.l hle) (by decide), hne (own_le hc.b hle) (by decide), hne (own_le hc.c hle) (by decide), hne (own_le hc.a hle) (by decide), hc.zo, hc.zj, hc.zf, hc.zs, hc.zt,
      ⟨gm, em, Nat.le_trans hle hgm, (setRow_other _ _ _ _ (hnm.ne_ hQ5 (by decide))).trans hnm⟩, hne (own_le hc.iv hle) (by decide), hne (own_le hc.tv hle) (by decide)⟩
  · generalize propsE C [(98, a)] = r at *
    have H0 := Lib.hid h0
    have hq : (r != 0) = true := by simpa using h0
    clear h0
    have hw10 := fun (wz : World) (hz : Below W2.heap.size W2 wz) => (show Blk (wz.setRow (w.heap.size + 1 + 1) cut0) (w.heap.size + 1 + 1) 34 cut0 from setRow_heap wz (w.heap.size + 1 + 1) _ cut0 _ _ (HXH.out wz hz).2.2)
    have H10 := Lib.hid hw10
    clear hw10
    go_enter Try.func6, Try.ntmps6
    go_upto_region 1 with (fail)
    rw [HW2.out]
    have HH := Lib.hid (HXH.out W2 HBF.out)
    go_wp2_with (first
      | (refine wpList_load_row rfl 29 (.tmp 2) rfl w.heap.size rfl 29 (V.cells C.max) (0, 0) _ HH.out.1 Try.underlying29 rfl (by kernel_rfl) ?_)
      | (refine wpList_load_row rfl 31 (.tmp 3) rfl (w.heap.size + 1) rfl 31 #[.int .u8 98, .int .i64 a] (0, 0) _ HH.out.2.1 Try.underlying31 rfl (by kernel_rfl) ?_)
      | (go_at_call 26; refine HCP.out.mono ?_; rintro e w3 ⟨rfl, hb3⟩; have HB3 := Lib.hid (bt HBA.out (Nat.le_refl _) hb3); clear hb3)
      | (refine wpList_store_row rfl 34 (.tmp 4) (.tmp 13) rfl (w.heap.size + 1 + 1) cut0 rfl rfl 34 _ (HXH.out w3 HB3.out).2.2 (by kernel_rfl) rfl (by simp [Value.oneCell']) ?_))
    refine bodyPost_ret (results_cell_one (fn := Try.f6) (p := 4) (q := 5) rfl _ _ (w.heap.size + 1 + 1) 34 cut0 (0, 0) _ rfl (H10.out w3 HB3.out) Try.underlying34 rfl (by kernel_rfl) (.int .i64 r) rfl) rfl ?_
    have hbf : Below w.heap.size w (w3.setRow (w.heap.size + 1 + 1) cut0) := (bt HB2.out (Nat.le_refl _) HB3.out).trans ⟨rfl, rfl, rfl, by rw [size_setRow]; exact Nat.le_refl _, fun k hk => setRow_other _ _ _ _ (by omega)⟩
    exact ⟨hbf, cut0, rfl, fun _ => rfl, fun h => absurd h H0.out⟩
end Go.Proofs.Ytagffmalmkcboaa

namespace Go.Proofs.Ytagffmalmkcboaa
open Go.RowKit Go.Maps

def bothF (s t : List Bool) (zs : List Tri) : Nat := (zs.filter fun z => s.getD (vOf z.1) false && t.getD (vOf z.1) false).length
def someF (s t : List Bool) (zs : List Tri) : Nat := (zs.filter fun z => s.getD (vOf z.1) false || t.getD (vOf z.1) false).length
theorem bothF_snoc (s t : List Bool) (zs : List Tri) (z : Tri) : bothF s t (zs ++ [z]) = bothF s t zs + (if (s.getD (vOf z.1) false && t.getD (vOf z.1) false) = true then 1 else 0) := by
  unfold bothF
  rw [List.filter_append, List.length_append]
  congr 1
  rw [List.filter_cons]
  split <;> rfl
theorem someF_snoc (s t : List Bool) (zs : List Tri) (z : Tri) : someF s t (zs ++ [z]) = someF s t zs + (if (s.getD (vOf z.1) false || t.getD (vOf z.1) false) = true then 1 else 0) := by
  unfold someF
  rw [List.filter_append, List.length_append]
  congr 1
  rw [List.filter_cons]
  split <;> rfl
theorem bothF_le (s t : List Bool) (zs : List Tri) : bothF s t zs ≤ zs.length := List.length_filter_le _ _
theorem someF_le (s t : List Bool) (zs : List Tri) : someF s t zs ≤ zs.length := List.length_filter_le _ _
noncomputable def alikeR (C : Circ) (a b : Int) : Int × Int × Int := if propsE C [(98, a), (98, b)] = 0 then ((bothF (conB C a.toNat) (conB C b.toNat) C.latches : Int), (someF (conB C a.toNat) (conB C b.toNat) C.latches : Int), 0) else (0, 0, propsE C [(98, a), (98, b)])

set_option maxHeartbeats 8000000 in
set_option maxRecDepth 100000 in
theorem AlikeB_any (w : World) (V : CV) (C : Circ) (a b : Int) (h : C.In w V) (ok : C.Ok) :
    Calls Try.prog 8 #[V.val C.max, .agg #[.int .u8 98, .int .i64 a], .agg #[.int .u8 98, .int .i64 b]] w fun e w' => Below w.heap.size w w' ∧ e = .returned (.tuple #[.int .i64 (alikeR C a b).1, .int .i64 (alikeR C a b).2.1, .int .i64 (alikeR C a b).2.2]) := by
  obtain ⟨W2, hW2⟩ : ∃ W2, ((w.alloc (.cells (V.cells C.max) 29)).alloc (.cells #[.int .u8 98, .int .i64 a] 31)).alloc (.cells #[.int .u8 98, .int .i64 b] 31) = W2 := ⟨_, rfl⟩
  have HW2 := Lib.hid hW2
  have hB2 : Below w.heap.size w W2 := by rw [← hW2]; exact (((Below.refl _ _).alloc (Nat.le_refl _) _).alloc (by simp) _).alloc (by simp; omega) _
  have hX2 : Blk W2 w.heap.size 29 (V.cells C.max) := by rw [← hW2]; exact ((Blk.new w _ _).alloc _).alloc _
  have hP2 : Blk W2 (w.heap.size + 1) 31 #[.int .u8 98, .int .i64 a] := by
    rw [← hW2]
    have := (Blk.new (w.alloc (.cells (V.cells C.max) 29)) 31 #[.int .u8 98, .int .i64 a]).alloc (.cells #[.int .u8 98, .int .i64 b] 31)
    rwa [show (w.alloc (.cells (V.cells C.max) 29)).heap.size = w.heap.size + 1 by simp] at this
  have hQ2 : Blk W2 (w.heap.size + 1 + 1) 31 #[.int .u8 98, .int .i64 b] := by
    rw [← hW2]
    have := Blk.new ((w.alloc (.cells (V.cells C.max) 29)).alloc (.cells #[.int .u8 98, .int .i64 a] 31)) 31 #[.int .u8 98, .int .i64 b]
    rwa [show ((w.alloc (.cells (V.cells C.max) 29)).alloc (.cells #[.int .u8 98, .int .i64 a] 31)).heap.size = w.heap.size + 1 + 1 by simp] at this
  have HB2 := Lib.hid hB2
  have HXH : Hid (∀ wz, Below W2.heap.size W2 wz → wz.heap[w.heap.size]? = some (.cells (V.cells C.max) 29 (0, 0)) ∧ wz.heap[w.heap.size + 1]? = some (.cells #[.int .u8 98, .int .i64 a] 31 (0, 0)) ∧ wz.heap[w.heap.size + 1 + 1]? = some (.cells #[.int .u8 98, .int .i64 b] 31 (0, 0))) := Lib.hid (fun wz hz => ⟨hX2.below hz hX2.lt, hP2.below hz hP2.lt, hQ2.below hz hQ2.lt⟩)
  have HIN := Lib.hid (fun wz (hz : Below W2.heap.size W2 wz) => h.below (bt hB2 (Nat.le_refl _) hz))
  have HBF := Lib.hid (Below.refl W2.heap.size W2)
  have HBA : Hid (Below W2.heap.size W2 (W2.alloc (.cells #[.int .u8 98, .int .i64 a, .int .u8 98, .int .i64 b] 31))) := Lib.hid ((Below.refl _ _).alloc (Nat.le_refl _) _)
  have HROW : Hid (RowE 2 encPr (W2.alloc (.cells #[.int .u8 98, .int .i64 a, .int .u8 98, .int .i64 b] 31)) (.slice (some ⟨W2.heap.size, 0, none⟩) 2 2) [(98, a), (98, b)]) := Lib.hid (props_row W2 [(98, a), (98, b)] (by simp))
  have HCP := Lib.hid (checkProps_any (W2.alloc (.cells #[.int .u8 98, .int .i64 a, .int .u8 98, .int .i64 b] 31)) V C (.slice (some ⟨W2.heap.size, 0, none⟩) 2 2) [(98, a), (98, b)] (HIN.out _ HBA.out) ok HROW.out (by simp))
  have hAR : alikeR C a b = if propsE C [(98, a), (98, b)] = 0 then ((bothF (conB C a.toNat) (conB C b.toNat) C.latches : Int), (someF (conB C a.toNat) (conB C b.toNat) C.latches : Int), 0) else (0, 0, propsE C [(98, a), (98, b)]) := rfl
  have HAR := Lib.hid hAR
  clear hX2 hP2 hQ2 hW2 h ok hB2 hAR
  by_cases h0 : propsE C [(98, a), (98, b)] = 0
  · obtain ⟨hz, hps⟩ := propsE_ok h0
    obtain ⟨ha0, ha1⟩ := hasP_bad (hps (98, a) (by simp))
    obtain ⟨hb0, hb1⟩ := hasP_bad (hps (98, b) (by simp))
    obtain ⟨ka, rfl⟩ : ∃ k : Nat, a = (k : Int) := ⟨a.toNat, by omega⟩
    obtain ⟨kb, rfl⟩ : ∃ k : Nat, b = (k : Int) := ⟨b.toNat, by omega⟩
    rw [show ((ka : Int).toNat) = ka by omega] at ha1 HAR
    rw [show ((kb : Int).toNat) = kb by omega] at hb1 HAR
    have HRT := Lib.hid (right_of hz)
    have HCA := Lib.hid (fun wz (hb : Below W2.heap.size W2 wz) => coneB_any wz V C ka (HIN.out wz hb) hz ha1)
    have HCB := Lib.hid (fun wz (hb : Below W2.heap.size W2 wz) => coneB_any wz V C kb (HIN.out wz hb) hz hb1)
    have HAE : Hid (alikeR C ka kb = ((bothF (conB C ka) (conB C kb) C.latches : Int), (someF (conB C ka) (conB C kb) C.latches : Int), 0)) := Lib.hid (by rw [HAR.out, if_pos h0])
    have HLA := Lib.hid (conB_len C ka)
    have HLB := Lib.hid (conB_len C kb)
    rw [h0] at HCP
    rw [HAE.out]
    obtain ⟨nx, hnx⟩ : ∃ nx, C.max.toNat + 1 = nx := ⟨_, rfl⟩
    rw [hnx] at HCA HCB HLA HLB
    have HNX := Lib.hid hnx
    obtain ⟨sa, hsa⟩ : ∃ sa, conB C ka = sa := ⟨_, rfl⟩
    obtain ⟨sb, hsb⟩ : ∃ sb, conB C kb = sb := ⟨_, rfl⟩
    rw [hsa] at HCA HLA
    rw [hsb] at HCB HLB
    rw [hsa, hsb]
    clear hz hps ha0 ha1 hb0 hb1 h0 hnx HAR HAE hsa hsb
    obtain ⟨nL, hnL⟩ : ∃ n, C.latches.length = n := ⟨_, rfl⟩
    have HNL := Lib.hid hnL
    have hnL16 : nL ≤ 16384 := by rw [← hnL]; exact HRT.out.nl
    obtain ⟨Vi, Vl, Vo, Vb, Vc, Vj, Vf, Va, Vs, Vt⟩ := V
    obtain ⟨AL, cL, eL, _, _, hL⟩ := (HIN.out W2 HBF.out).l
    simp only at eL
    subst eL
    rw [hnL] at HXH HIN HCP HCA HCB HW2 ⊢
    have HLR := Lib.hid hL
    clear hL hnL
    have HC : Hid (∀ wz, Below W2.heap.size W2 wz → wz.cell? ⟨w.heap.size, 0, none⟩ = some (.int .i64 C.max) ∧ wz.cell? ⟨w.heap.size, 1, none⟩ = some Vi ∧ wz.cell? ⟨w.heap.size, 2, none⟩ = some (.slice AL nL cL) ∧ wz.cell? ⟨w.heap.size, 3, none⟩ = some Vo ∧ wz.cell? ⟨w.heap.size, 4, none⟩ = some Vb ∧ wz.cell? ⟨w.heap.size, 5, none⟩ = some Vc ∧ wz.cell? ⟨w.heap.size, 6, none⟩ = some Vj ∧ wz.cell? ⟨w.heap.size, 7, none⟩ = some Vf ∧ wz.cell? ⟨w.heap.size, 8, none⟩ = some Va ∧ wz.cell? ⟨w.heap.size, 9, none⟩ = some Vs ∧ wz.cell? ⟨w.heap.size, 10, none⟩ = some Vt ∧ wz.cell? ⟨w.heap.size + 1, 0, none⟩ = some (.int .u8 98) ∧ wz.cell? ⟨w.heap.size + 1, 1, none⟩ = some (.int .i64 ka) ∧ wz.cell? ⟨w.heap.size + 1 + 1, 0, none⟩ = some (.int .u8 98) ∧ wz.cell? ⟨w.heap.size + 1 + 1, 1, none⟩ = some (.int .i64 kb)) := Lib.hid (fun wz hz => by
      obtain ⟨q1, q2, q3⟩ := HXH.out wz hz
      have q1 : Blk wz w.heap.size 29 _ := q1
      have q2 : Blk wz (w.heap.size + 1) 31 _ := q2
      have q3 : Blk wz (w.heap.size + 1 + 1) 31 _ := q3
      exact ⟨q1.cell 0, q1.cell 1, q1.cell 2, q1.cell 3, q1.cell 4, q1.cell 5, q1.cell 6, q1.cell 7, q1.cell 8, q1.cell 9, q1.cell 10, q2.cell 0, q2.cell 1, q3.cell 0, q3.cell 1⟩)
    go_enter Try.func8, Try.ntmps8
    go_upto_region 1 with (fail)
    rw [HW2.out]
    have HH := Lib.hid (HXH.out W2 HBF.out)
    go_upto_region 5 with (first
      | (refine wpList_load_row rfl 29 (.tmp 3) rfl w.heap.size rfl 29 (({ i := Vi, l := .slice AL nL cL, o := Vo, b := Vb, c := Vc, j := Vj, f := Vf, a := Va, s := Vs, t := Vt } : CV).cells C.max) (0, 0) _ HH.out.1 Try.underlying29 rfl (by kernel_rfl) ?_)
      | (refine wpList_load_row rfl 31 (.tmp 4) rfl (w.heap.size + 1) rfl 31 #[.int .u8 98, .int .i64 ka] (0, 0) _ HH.out.2.1 Try.underlying31 rfl (by kernel_rfl) ?_)
      | (refine wpList_load_row rfl 31 (.tmp 5) rfl (w.heap.size + 1 + 1) rfl 31 #[.int .u8 98, .int .i64 kb] (0, 0) _ HH.out.2.2 Try.underlying31 rfl (by kernel_rfl) ?_)
      | (go_at_call 26; refine HCP.out.mono ?_; rintro e w3 ⟨rfl, hb3⟩; have HB3 := Lib.hid (bt HBA.out (Nat.le_refl _) hb3); clear hb3))
    refine wp_region_T (by kernel_rfl) (fun wz => wz.cell? ⟨w.heap.size, 0, none⟩ = some (.int .i64 C.max) ∧ wz.cell? ⟨w.heap.size, 1, none⟩ = some Vi ∧ wz.cell? ⟨w.heap.size, 2, none⟩ = some (.slice AL nL cL) ∧ wz.cell? ⟨w.heap.size, 3, none⟩ = some Vo ∧ wz.cell? ⟨w.heap.size, 4, none⟩ = some Vb ∧ wz.cell? ⟨w.heap.size, 5, none⟩ = some Vc ∧ wz.cell? ⟨w.heap.size, 6, none⟩ = some Vj ∧ wz.cell? ⟨w.heap.size, 7, none⟩ = some Vf ∧ wz.cell? ⟨w.heap.size, 8, none⟩ = some Va ∧ wz.cell? ⟨w.heap.size, 9, none⟩ = some Vs ∧ wz.cell? ⟨w.heap.size, 10, none⟩ = some Vt ∧ wz.cell? ⟨w.heap.size + 1, 0, none⟩ = some (.int .u8 98) ∧ wz.cell? ⟨w.heap.size + 1, 1, none⟩ = some (.int .i64 ka) ∧ wz.cell? ⟨w.heap.size + 1 + 1, 0, none⟩ = some (.int .u8 98) ∧ wz.cell? ⟨w.heap.size + 1 + 1, 1, none⟩ = some (.int .i64 kb)) 8 ?_
    have HD0 : Hid (Below W2.heap.size W2 w3.drew) := Lib.hid HB3.out.drew
    have hHeld := HC.out _ HD0.out
    refine wpAnyT_take (i := 0) (v := ?v0r5q1) rfl (by kernel_rfl) (fun _ _ _ h => h) (by rfl) hHeld ?h0r5q1 ?_
    case h0r5q1 => (intro w' hSw; (try dsimp only at hSw); go_simp; try with_reducible rfl)
    (try simp only [Act.put, List.setIfInBounds_toArray])
    refine wpAnyT_take (i := 1) (v := ?v1r5q1) rfl (by kernel_rfl) (fun _ _ _ h => h) (by rfl) hHeld ?h1r5q1 ?_
    case h1r5q1 => (intro w' hSw; (try dsimp only at hSw); go_simp; try with_reducible rfl)
    (try simp only [Act.put])
    refine wpAnyT_take (i := 3) (v := ?v3r5q2) rfl (by kernel_rfl) (fun _ _ _ h => h) (by rfl) hHeld ?h3r5q2 ?_
    case h3r5q2 => (intro w' hSw; (try dsimp only at hSw); go_simp; try with_reducible rfl)
    (try simp only [Act.put])
    refine wpAnyT_take (i := 4) (v := ?v4r5q2) rfl (by kernel_rfl) (fun _ _ _ h => h) (by rfl) hHeld ?h4r5q2 ?_
    case h4r5q2 => (intro w' hSw; (try dsimp only at hSw); go_simp; try with_reducible rfl)
    (try simp only [Act.put])
    clear hHeld
    refine wpAnyT_one (i := 2) rfl (by kernel_rfl) (fun K hK => ?_)
    go_simp
    go_at_call 28
    refine (HCA.out _ HD0.out).mono ?_
    rintro e w4 ⟨ga, rfl, hg4, hb4, ht4⟩
    have HB4 := Lib.hid (bt HD0.out (Nat.le_refl _) hb4)
    have HT4 := Lib.hid ht4
    refine hK.out _ _ (fun _ => HC.out _ HB4.out) ?_
    clear hK K hb4 ht4
    (try simp only [Act.put, zA, zB, zC])
    refine wpAnyT_one (i := 5) rfl (by kernel_rfl) (fun K hK => ?_)
    go_simp
    go_at_call 28
    refine (HCB.out _ HB4.out).mono ?_
    rintro e w5 ⟨gb, rfl, hg5, hb5, ht5⟩
    have HB5 := Lib.hid (bt HB4.out (Nat.le_refl _) hb5)
    have HTA : Hid (Tab w5 ga sa) := Lib.hid (Blk.below HT4.out hb5 (Blk.lt HT4.out))
    have HTB := Lib.hid ht5
    refine hK.out _ _ (fun _ => HC.out _ HB5.out) ?_
    clear hK K hb5 ht5 HT4
    (try simp only [Act.put, zA, zB, zC])
    have hHeld := HC.out _ HB5.out
    refine wpAnyT_take (i := 6) (v := ?v6r5q3) rfl (by kernel_rfl) (fun _ _ _ h => h) (by rfl) hHeld ?h6r5q3 ?_
    case h6r5q3 => (intro w' hSw; (try dsimp only at hSw); go_simp; try with_reducible rfl)
    (try simp only [Act.put, List.setIfInBounds_toArray])
    refine wpAnyT_take (i := 7) (v := ?v7r5q3) rfl (by kernel_rfl) (fun _ _ _ h => h) (by rfl) hHeld ?h7r5q3 ?_
    case h7r5q3 => (intro w' hSw; (try dsimp only at hSw); go_simp; try with_reducible rfl)
    (try simp only [Act.put])
    clear hHeld
    refine wpAnyT_done (by kernel_rfl) ?_
    have x2 := (HC.out _ HB5.out).2.2.1
    go_wp2
    go_loopg [10, 11, 35] nL (fun j vb vs iv wx => ∃ q : Nat, q ≤ nL ∧ j = nL - q ∧ iv = .int .i64 q ∧ vb = .int .i64 (bothF sa sb (C.latches.take q) : Int) ∧ vs = .int .i64 (someF sa sb (C.latches.take q) : Int) ∧ Below w5.heap.size w5 wx)
    case atStart => exact ⟨0, Nat.zero_le _, rfl, rfl, rfl, rfl, Below.refl _ _⟩
    case round =>
      obtain ⟨q, hq, hgk, rfl, rfl, rfl, hbl⟩ := hrel
      subst hgk
      have HBL := Lib.hid hbl
      have HBW := Lib.hid (bt HB5.out (Nat.le_refl _) hbl)
      clear hbl x2
      by_cases hlt : q < nL
      · obtain ⟨z, hzz⟩ : ∃ z, C.latches[q]? = some z := ⟨_, List.getElem?_eq_getElem (by rw [HNL.out]; exact hlt)⟩
        obtain ⟨bb, off, e, hb, hcell⟩ := HLR.out q z hzz
        subst e
        obtain ⟨z0, z1, z2⟩ := z
        have h0 := (HBW.out.cell (p := ⟨bb, off + (q * 3 + 0), none⟩) hb).trans (hcell 0 _ rfl)
        have h1 := (HBW.out.cell (p := ⟨bb, off + (q * 3 + 1), none⟩) hb).trans (hcell 1 _ rfl)
        have h2 := (HBW.out.cell (p := ⟨bb, off + (q * 3 + 2), none⟩) hb).trans (hcell 2 _ rfl)
        simp only [Nat.add_zero, ← Nat.add_assoc] at h0 h1 h2
        have hfz := fitL_of HRT.out (z0, z1, z2) (List.mem_of_getElem? hzz)
        simp only at hfz
        have hm0 := HRT.out.m0
        have HM1 := HRT.out.m1
        have hnxx := HNX.out
        have hq0 : 0 ≤ z0 / 2 := by omega
        have hq1 : z0 / 2 < (nx : Int) := by omega
        have hqt := tdiv_nn (b := 2) hfz.1
        have hq3 : IntKind.i64.wrap (z0 / 2) = z0 / 2 := i64_small (by omega) (by omega)
        obtain ⟨xa, hxa⟩ : ∃ x, sa[(z0 / 2).toNat]? = some x := ⟨_, List.getElem?_eq_getElem (by rw [HLA.out]; omega)⟩
        obtain ⟨xb, hxb⟩ : ∃ x, sb[(z0 / 2).toNat]? = some x := ⟨_, List.getElem?_eq_getElem (by rw [HLB.out]; omega)⟩
        have hga : sa.getD (vOf z0) false = xa := by unfold vOf; rw [List.getD_eq_getElem?_getD, hxa]; rfl
        have hgb : sb.getD (vOf z0) false = xb := by unfold vOf; rw [List.getD_eq_getElem?_getD, hxb]; rfl
        have HBS : Hid (bothF sa sb (C.latches.take (q + 1)) = bothF sa sb (C.latches.take q) + (if (xa && xb) = true then 1 else 0)) := Lib.hid (by rw [take_more hzz, bothF_snoc, hga, hgb])
        have HSS : Hid (someF sa sb (C.latches.take (q + 1)) = someF sa sb (C.latches.take q) + (if (xa || xb) = true then 1 else 0)) := Lib.hid (by rw [take_more hzz, someF_snoc, hga, hgb])
        have hbl1 := Nat.le_trans (bothF_le sa sb (C.latches.take q)) (List.length_take_le _ _)
        have hbl2 := Nat.le_trans (someF_le sa sb (C.latches.take q)) (List.length_take_le _ _)
        have hBW2 : Below w5.heap.size w5 (wr.alloc (.cells #[.int .i64 z0, .int .i64 z1, .int .i64 z2] 64)) := HBL.out.alloc HBL.out.size _
        have HBW2 := Lib.hid hBW2
        have hca := (hBW2.drew.cell (p := ⟨ga, (z0 / 2).toNat, none⟩) (Blk.lt HTA.out)).trans (HTA.out.cell hxa)
        have hcb := (hBW2.drew.cell (p := ⟨gb, (z0 / 2).toNat, none⟩) (Blk.lt HTB.out)).trans (HTB.out.cell hxb)
        have hz1 : Blk (wr.alloc (.cells #[.int .i64 z0, .int .i64 z1, .int .i64 z2] 64)).drew wr.heap.size 64 #[.int .i64 z0, .int .i64 z1, .int .i64 z2] := Blk.new wr _ _
        have hzc := hz1.cell 0
        simp only [List.getElem?_toArray, List.getElem?_cons_zero] at hzc
        have hk0 : (0 : Int) ≤ (q : Int) := by omega
        have hk1 : (q : Int) < (nL : Int) := by omega
        have HK := Lib.hid (And.intro hca (And.intro hcb hzc))
        obtain ⟨pb, hpb⟩ : ∃ pb, bothF sa sb (C.latches.take q) = pb := ⟨_, rfl⟩
        obtain ⟨pe, hpe⟩ : ∃ pe, someF sa sb (C.latches.take q) = pe := ⟨_, rfl⟩
        rw [hpb] at HBS hbl1 ⊢
        rw [hpe] at HSS hbl2 ⊢
        have hwb : IntKind.i64.wrap ((pb : Int) + 1) = (pb : Int) + 1 := i64_small (by omega) (by omega)
        have hwe : IntKind.i64.wrap ((pe : Int) + 1) = (pe : Int) + 1 := i64_small (by omega) (by omega)
        clear hcell hzz hxa hxb hga hgb hBW2 hca hcb hzc hz1 hpb hpe hfz
        go_upto_region 9 with (fail)
        refine wp_region_T (by kernel_rfl) (fun w' => w'.cell? ⟨ga, (z0 / 2).toNat, none⟩ = some (.bool xa) ∧ w'.cell? ⟨gb, (z0 / 2).toNat, none⟩ = some (.bool xb) ∧ w'.cell? ⟨wr.heap.size, 0, none⟩ = some (.int .i64 z0)) 14 ?_
        have hHeld := HK.out
        refine wpAnyT_take (i := 0) (v := ?v0r9q4) rfl (by kernel_rfl) (fun _ _ _ h => h) (by rfl) hHeld ?h0r9q4 ?_
        case h0r9q4 => (intro w' hSw; (try dsimp only at hSw); go_simp; try with_reducible rfl)
        (try simp only [Act.put, List.setIfInBounds_toArray])
        refine wpAnyT_take (i := 1) (v := ?v1r9q4) rfl (by kernel_rfl) (fun _ _ _ h => h) (by rfl) hHeld ?h1r9q4 ?_
        case h1r9q4 => (intro w' hSw; (try dsimp only at hSw); go_simp; try with_reducible rfl)
        (try simp only [Act.put])
        refine wpAnyT_take (i := 2) (v := ?v2r9q4) rfl (by kernel_rfl) (fun _ _ _ h => h) (by rfl) hHeld ?h2r9q4 ?_
        case h2r9q4 => (intro w' hSw; (try dsimp only at hSw); go_simp; try with_reducible rfl)
        (try simp only [Act.put])
        refine wpAnyT_take (i := 3) (v := ?v3r9q4) rfl (by kernel_rfl) (fun _ _ _ h => h) (by rfl) hHeld ?h3r9q4 ?_
        case h3r9q4 => (intro w' hSw; (try dsimp only at hSw); go_simp; try with_reducible rfl)
        (try simp only [Act.put])
        refine wpAnyT_take (i := 4) (v := ?v4r9q4) rfl (by kernel_rfl) (fun _ _ _ h => h) (by rfl) hHeld ?h4r9q4 ?_
        case h4r9q4 => (intro w' hSw; (try dsimp only at hSw); go_simp; try with_reducible rfl)
        (try simp only [Act.put])
        refine wpAnyT_take (i := 5) (v := ?v5r9q4) rfl (by kernel_rfl) (fun _ _ _ h => h) (by rfl) hHeld ?h5r9q4 ?_
        case h5r9q4 => (intro w' hSw; (try dsimp only at hSw); go_simp; try with_reducible rfl)
        (try simp only [Act.put])
        refine wpAnyT_take (i := 6) (v := ?v6r9q4) rfl (by kernel_rfl) (fun _ _ _ h => h) (by rfl) hHeld ?h6r9q4 ?_
        case h6r9q4 => (intro w' hSw; (try dsimp only at hSw); go_simp; try with_reducible rfl)
        (try simp only [Act.put])
        refine wpAnyT_take (i := 7) (v := ?v7r9q4) rfl (by kernel_rfl) (fun _ _ _ h => h) (by rfl) hHeld ?h7r9q4 ?_
        case h7r9q4 => (intro w' hSw; (try dsimp only at hSw); go_simp; try with_reducible rfl)
        (try simp only [Act.put])
        refine wpAnyT_take (i := 8) (v := ?v8r9q4) rfl (by kernel_rfl) (fun _ _ _ h => h) (by rfl) hHeld ?h8r9q4 ?_
        case h8r9q4 => (intro w' hSw; (try dsimp only at hSw); go_simp; try with_reducible rfl)
        (try simp only [Act.put])
        refine wpAnyT_take (i := 9) (v := ?v9r9q4) rfl (by kernel_rfl) (fun _ _ _ h => h) (by rfl) hHeld ?h9r9q4 ?_
        case h9r9q4 => (intro w' hSw; (try dsimp only at hSw); go_simp; try with_reducible rfl)
        (try simp only [Act.put])
        refine wpAnyT_take (i := 10) (v := ?v10r9q4) rfl (by kernel_rfl) (fun _ _ _ h => h) (by rfl) hHeld ?h10r9q4 ?_
        case h10r9q4 => (intro w' hSw; (try dsimp only at hSw); go_simp; try with_reducible rfl)
        (try simp only [Act.put])
        refine wpAnyT_take (i := 11) (v := ?v11r9q4) rfl (by kernel_rfl) (fun _ _ _ h => h) (by rfl) hHeld ?h11r9q4 ?_
        case h11r9q4 => (intro w' hSw; (try dsimp only at hSw); go_simp; try with_reducible rfl)
        (try simp only [Act.put])
        refine wpAnyT_take (i := 12) (v := ?v12r9q4) rfl (by kernel_rfl) (fun _ _ _ h => h) (by rfl) hHeld ?h12r9q4 ?_
        case h12r9q4 => (intro w' hSw; (try dsimp only at hSw); go_simp; try with_reducible rfl)
        (try simp only [Act.put])
        refine wpAnyT_take (i := 13) (v := ?v13r9q4) rfl (by kernel_rfl) (fun _ _ _ h => h) (by rfl) hHeld ?h13r9q4 ?_
        case h13r9q4 => (intro w' hSw; (try dsimp only at hSw); go_simp; try with_reducible rfl)
        (try simp only [Act.put])
        clear hHeld
        refine wpAnyT_done (by kernel_rfl) ?_
        cases xa <;> cases xb
        all_goals
          go_wp2
          go_roundg (nL - (q + 1))
          case measure => omega
          case rel => exact ⟨q + 1, by omega, rfl, by go_num, by rw [HBS.out]; simp, by rw [HSS.out]; simp, HBW2.out.drew⟩
      · have hqe : nL = q := by omega
        subst hqe
        have HT1 : Hid (C.latches.take nL = C.latches) := Lib.hid (List.take_of_length_le (by rw [HNL.out]; exact Nat.le_refl _))
        rw [HT1.out]
        go_wp2
        go_ret3
        exact ⟨bt HB2.out (Nat.le_refl _) HBW.out, rfl⟩
  · have HAE : Hid (alikeR C a b = (0, 0, propsE C [(98, a), (98, b)])) := Lib.hid (by rw [HAR.out, if_neg h0])
    rw [HAE.out]
    clear HAR HAE
    generalize propsE C [(98, a), (98, b)] = r at *
    have hq : (r != 0) = true := by simpa using h0
    clear h0
    go_enter Try.func8, Try.ntmps8
    go_upto_region 1 with (fail)
    rw [HW2.out]
    have HH := Lib.hid (HXH.out W2 HBF.out)
    go_wp2_with (first
      | (refine wpList_load_row rfl 29 (.tmp 3) rfl w.heap.size rfl 29 (V.cells C.max) (0, 0) _ HH.out.1 Try.underlying29 rfl (by kernel_rfl) ?_)
      | (refine wpList_load_row rfl 31 (.tmp 4) rfl (w.heap.size + 1) rfl 31 #[.int .u8 98, .int .i64 a] (0, 0) _ HH.out.2.1 Try.underlying31 rfl (by kernel_rfl) ?_)
      | (refine wpList_load_row rfl 31 (.tmp 5) rfl (w.heap.size + 1 + 1) rfl 31 #[.int .u8 98, .int .i64 b] (0, 0) _ HH.out.2.2 Try.underlying31 rfl (by kernel_rfl) ?_)
      | (go_at_call 26; refine HCP.out.mono ?_; rintro e w3 ⟨rfl, hb3⟩; have HB3 := Lib.hid (bt HBA.out (Nat.le_refl _) hb3); clear hb3))
    go_ret3
    exact ⟨bt HB2.out (Nat.le_refl _) HB3.out, rfl⟩
end Go.Proofs.Ytagffmalmkcboaa

namespace Go.Proofs.Ytagffmalmkcboaa
open Go.RowKit Go.Maps

def exC : Circ := { max := 5, inputs := [2, 4], latches := [(6, 2, 0), (8, 10, 0)], outputs := [], bads := [6, 8], constraints := [], justice := [], fairness := [], ands := [(10, 8, 4)], symbols := [], comments := [] }
theorem rowe_nilC {E : Type} {k : Nat} {enc : E → List Value} {w : World} {A : Option Addr} : RowE k enc w (.slice A 0 0) ([] : List E) := RowE.nil w A 0 (by simp [maxLen])
theorem lists_nilC {w : World} : Lists w (.slice none 0 0) [] := ⟨[], rowe_nilC, rfl, fun i u zs hu _ => by simp at hu⟩
theorem blk_roweC {E : Type} {k : Nat} {enc : E → List Value} {w : World} {g : Nat} {t : TypeId} {zs : List E} (hk : ∀ z, (enc z).length = k) (h : Blk w g t (zs.flatMap enc).toArray) (hm : zs.length ≤ maxLen) : RowE k enc w (.slice (some ⟨g, 0, none⟩) zs.length zs.length) zs :=
  ⟨_, _, rfl, Nat.le_refl _, hm, fun i z hz => ⟨g, 0, rfl, h.lt, fun j u hu => by
    have hj : j < k := by rw [← hk z]; exact (List.getElem?_eq_some_iff.1 hu).1
    rw [Nat.zero_add, h.cell, List.getElem?_toArray, flat_get hk zs i z hz j hj]; exact hu⟩⟩
abbrev exCV (a b c d : Nat) : CV := ⟨.slice (some ⟨a, 0, none⟩) 2 2, .slice (some ⟨b, 0, none⟩) 2 2, .slice none 0 0, .slice (some ⟨c, 0, none⟩) 2 2, .slice none 0 0, .slice none 0 0, .slice none 0 0, .slice (some ⟨d, 0, none⟩) 1 1, .slice none 0 0, .slice none 0 0⟩
theorem exC_in {w : World} {a b c d : Nat} (h1 : Blk w a 3 #[.int .i64 2, .int .i64 4]) (h2 : Blk w b 64 #[.int .i64 6, .int .i64 2, .int .i64 0, .int .i64 8, .int .i64 10, .int .i64 0]) (h3 : Blk w c 3 #[.int .i64 6, .int .i64 8]) (h4 : Blk w d 66 #[.int .i64 10, .int .i64 8, .int .i64 4]) : exC.In w (exCV a b c d) :=
  ⟨blk_roweC (zs := ([2, 4] : List Int)) lenI h1 (by simp [maxLen]), blk_roweC (zs := ([(6, 2, 0), (8, 10, 0)] : List Tri)) lenT h2 (by simp [maxLen]), rowe_nilC, blk_roweC (zs := ([6, 8] : List Int)) lenI h3 (by simp [maxLen]), rowe_nilC, lists_nilC, rowe_nilC, blk_roweC (zs := ([(10, 8, 4)] : List Tri)) lenT h4 (by simp [maxLen]), rowe_nilC, rowe_nilC⟩
theorem exC_ok : exC.Ok := by
  refine ⟨?_, ?_, ?_, ?_, ?_, ?_, ?_, ?_, ?_, ?_, ?_⟩ <;> simp [exC, I64, I64T]
theorem exC_check : checkR exC = (0, 0) := by decide +kernel
theorem exC_thru : thruU exC = [(0, 0), (0, 0), (0, 0), (2, 0), (10, 0), (8, 4)] := by decide +kernel
theorem exC_hang {L : List Int} {tb : List Bool} (hl : tb.length = 6) (hr : ∀ l ∈ L, 2 ≤ l → tb.getD (vOf l) false = true)
    (hs : ∀ v : Nat, v < 6 → tb.getD v false = true → (2 ≤ ((thruU exC).getD v (0, 0)).1 → tb.getD (vOf ((thruU exC).getD v (0, 0)).1) false = true) ∧ (2 ≤ ((thruU exC).getD v (0, 0)).2 → tb.getD (vOf ((thruU exC).getD v (0, 0)).2) false = true))
    (ho : ∀ v : Nat, v < 6 → tb.getD v false = true → Hang (thruU exC) L v) : supF (thruU exC) L = tb :=
  (sup_eq (by rw [hl, exC_thru]; rfl) (fun v hv => ⟨fun h => ho v (by rw [← hl]; exact get_lt h) h, fun h => h.least (p := fun v => tb.getD v false = true) hr (fun v h => hs v (by rw [← hl]; exact get_lt h) h)⟩)).symm
def exT0 : List Bool := [false, true, false, true, false, false]
def exT1 : List Bool := [false, false, true, false, true, true]
theorem exC_con0 : conB exC 0 = exT0 := by
  have r3 : Hang (thruU exC) (rootsB exC 0) 3 := Hang.root (l := 6) (by decide) (by decide)
  have h1 : Hang (thruU exC) (rootsB exC 0) 1 := by
    have := Hang.left r3 (by rw [exC_thru]; decide)
    rw [exC_thru] at this ⊢
    exact this
  refine exC_hang rfl (by decide) (by rw [exC_thru]; decide +kernel) (fun v hv h => ?_)
  have : v = 0 ∨ v = 1 ∨ v = 2 ∨ v = 3 ∨ v = 4 ∨ v = 5 := by omega
  rcases this with rfl | rfl | rfl | rfl | rfl | rfl
  · cases h
  · exact h1
  · cases h
  · exact r3
  · cases h
  · cases h
theorem exC_con1 : conB exC 1 = exT1 := by
  have r4 : Hang (thruU exC) (rootsB exC 1) 4 := Hang.root (l := 8) (by decide) (by decide)
  have h5 : Hang (thruU exC) (rootsB exC 1) 5 := by
    have := Hang.left r4 (by rw [exC_thru]; decide)
    rw [exC_thru] at this ⊢
    exact this
  have h2 : Hang (thruU exC) (rootsB exC 1) 2 := by
    have := Hang.right h5 (by rw [exC_thru]; decide)
    rw [exC_thru] at this ⊢
    exact this
  refine exC_hang rfl (by decide) (by rw [exC_thru]; decide +kernel) (fun v hv h => ?_)
  have : v = 0 ∨ v = 1 ∨ v = 2 ∨ v = 3 ∨ v = 4 ∨ v = 5 := by omega
  rcases this with rfl | rfl | rfl | rfl | rfl | rfl
  · cases h
  · cases h
  · exact h2
  · cases h
  · exact r4
  · exact h5
theorem exC_props1 : propsE exC [(98, 0)] = 0 := propsE_all (by rw [exC_check]) (by decide +kernel)
theorem exC_props2 : propsE exC [(98, 0), (98, 1)] = 0 := propsE_all (by rw [exC_check]) (by decide +kernel)
theorem exC_alike : alikeR exC 0 1 = (0, 2, 0) := by
  unfold alikeR
  rw [if_pos exC_props2]
  show ((bothF (conB exC 0) (conB exC 1) exC.latches : Int), (someF (conB exC 0) (conB exC 1) exC.latches : Int), (0 : Int)) = _
  rw [exC_con0, exC_con1]
  decide +kernel
theorem exC_latches : (cutX exC (conB exC 0) 0).latches = [(4, 2, 0)] := by rw [exC_con0]; decide +kernel
theorem exC_nums : numsF (conB exC 0) exC.inputs 0 = [0] := by rw [exC_con0]; decide +kernel

theorem exC_of (wx : World) (a b c d : Nat) (hx : exC.In wx (exCV a b c d)) : Calls Try.prog 6 #[(exCV a b c d).val 5, .agg #[.int .u8 98, .int .i64 0]] wx fun e w' => Below wx.heap.size wx w' ∧ ∃ (A1 A4 A5 A8 Ai At : Option Addr) (n1 c1 n4 c4 n5 c5 n8 c8 ci nt ct gl off cl gm : Nat) (mx : Int),
    e = .returned (.tuple #[.agg #[.int .i64 mx, .slice A1 n1 c1, .slice (some ⟨gl, off, none⟩) 1 cl, .slice none 0 0, .slice A4 n4 c4, .slice A5 n5 c5, .slice none 0 0, .slice none 0 0, .slice A8 n8 c8, .slice none 0 0, .slice none 0 0, .slice (some ⟨gm, 0, none⟩) 6 6, .slice Ai 1 ci, .slice At nt ct], .int .i64 0]) ∧
    w'.cell? ⟨gl, off, none⟩ = some (.int .i64 4) ∧ w'.cell? ⟨gl, off + 1, none⟩ = some (.int .i64 2) ∧ w'.cell? ⟨gl, off + 2, none⟩ = some (.int .i64 0) ∧ gl < w'.heap.size := by
  have h := OfB_any wx (exCV a b c d) exC 0 hx exC_ok
  rw [exC_props1] at h
  refine h.mono ?_
  rintro e w' ⟨hb, cs, rfl, _, hyes⟩
  obtain ⟨V', lv, iv, tv, rfl, hc⟩ := hyes rfl
  refine ⟨hb, ?_⟩
  obtain ⟨A1, c1, e1⟩ := own_slice1 hc.i
  obtain ⟨A4, c4, e4⟩ := own_slice1 hc.b
  obtain ⟨A5, c5, e5⟩ := own_slice1 hc.c
  obtain ⟨A8, c8, e8⟩ := own_slice1 hc.a
  obtain ⟨gm, em, _, _⟩ := hc.m
  obtain ⟨Ai, ci, ei⟩ := own_slice1 hc.iv
  obtain ⟨At, ct, et⟩ := own_slice1 hc.tv
  have hl := hc.l
  rw [show ((0 : Int).toNat) = 0 from rfl] at hl ei
  rw [exC_latches] at hl
  rw [exC_nums] at ei
  obtain ⟨A2, c2, e2, _, _, hrun⟩ := own_rowe lenT hl
  obtain ⟨gl, off, rfl, hlt, hcell⟩ := hrun 0 (4, 2, 0) rfl
  have k0 := hcell 0 _ rfl
  have k1 := hcell 1 _ rfl
  have k2 := hcell 2 _ rfl
  simp only [Nat.zero_mul, Nat.zero_add, Nat.add_zero] at k0 k1 k2
  obtain ⟨zo, zj, zf, zs, zt⟩ : V'.o = .slice none 0 0 ∧ V'.j = .slice none 0 0 ∧ V'.f = .slice none 0 0 ∧ V'.s = .slice none 0 0 ∧ V'.t = .slice none 0 0 := ⟨hc.zo, hc.zj, hc.zf, hc.zs, hc.zt⟩
  clear hc hl
  obtain ⟨Wi, Wl, Wo, Wb, Wc, Wj, Wf, Wa, Ws, Wt⟩ := V'
  simp only at e1 e2 e4 e5 e8 zo zj zf zs zt
  subst e1 e2 e4 e5 e8 zo zj zf zs zt em ei et
  exact ⟨A1, A4, A5, A8, Ai, At, _, c1, _, c4, _, c5, _, c8, ci, _, ct, gl, off, c2, gm, _, rfl, k0, k1, k2, hlt⟩

set_option maxHeartbeats 8000000 in
set_option maxRecDepth 100000 in
theorem worksC_any (w : World) : Calls Try.prog 14 #[] w fun e w' => e = .returned (.bool true) ∧ Below w.heap.size w w' := by
  have HOF := Lib.hid (fun (wx : World) (a b c d : Nat) (hx : exC.In wx (exCV a b c d)) => exC_of wx a b c d hx)
  have HAL := Lib.hid (fun (wx : World) (a b c d : Nat) (hx : exC.In wx (exCV a b c d)) => (show Calls Try.prog 8 #[(exCV a b c d).val 5, .agg #[.int .u8 98, .int .i64 0], .agg #[.int .u8 98, .int .i64 1]] wx fun e w' => Below wx.heap.size wx w' ∧ e = .returned (.tuple #[.int .i64 0, .int .i64 2, .int .i64 0]) from by
    have h := AlikeB_any wx (exCV a b c d) exC 0 1 hx exC_ok
    rw [exC_alike] at h
    exact h))
  go_enter Try.func14, Try.ntmps14
  go_upto_region 2 with (fail)
  obtain ⟨W5, hW5⟩ : ∃ W5, (((((w.alloc (.cells #[.int .i64 2, .int .i64 4] 3)).alloc (.cells #[.int .i64 6, .int .i64 2, .int .i64 0, .int .i64 8, .int .i64 10, .int .i64 0] 64)).alloc (.cells #[.int .i64 6, .int .i64 8] 3)).alloc (.cells #[.int .i64 10, .int .i64 8, .int .i64 4] 66)).alloc (.cells ((exCV w.heap.size (w.heap.size + 1) (w.heap.size + 1 + 1) (w.heap.size + 1 + 1 + 1)).cells 5) 29)) = W5 := ⟨_, rfl⟩
  have hB5 : Below w.heap.size w W5 := by
    rw [← hW5]
    exact (((((Below.refl _ _).alloc (Nat.le_refl _) _).alloc (by simp) _).alloc (by simp; omega) _).alloc (by simp; omega) _).alloc (by simp; omega) _
  have hx0 : Blk W5 w.heap.size 3 #[.int .i64 2, .int .i64 4] := by rw [← hW5]; exact ((((Blk.new w _ _).alloc _).alloc _).alloc _).alloc _
  have hx1 : Blk W5 (w.heap.size + 1) 64 #[.int .i64 6, .int .i64 2, .int .i64 0, .int .i64 8, .int .i64 10, .int .i64 0] := by
    rw [← hW5]
    have h9 := Blk.new (w.alloc (.cells #[.int .i64 2, .int .i64 4] 3)) 64 #[.int .i64 6, .int .i64 2, .int .i64 0, .int .i64 8, .int .i64 10, .int .i64 0]
    rw [show (w.alloc (.cells #[.int .i64 2, .int .i64 4] 3)).heap.size = w.heap.size + 1 by simp] at h9
    exact ((h9.alloc _).alloc _).alloc _
  have hx2 : Blk W5 (w.heap.size + 1 + 1) 3 #[.int .i64 6, .int .i64 8] := by
    rw [← hW5]
    have h9 := Blk.new ((w.alloc (.cells #[.int .i64 2, .int .i64 4] 3)).alloc (.cells #[.int .i64 6, .int .i64 2, .int .i64 0, .int .i64 8, .int .i64 10, .int .i64 0] 64)) 3 #[.int .i64 6, .int .i64 8]
    rw [show ((w.alloc (.cells #[.int .i64 2, .int .i64 4] 3)).alloc (.cells #[.int .i64 6, .int .i64 2, .int .i64 0, .int .i64 8, .int .i64 10, .int .i64 0] 64)).heap.size = w.heap.size + 1 + 1 by simp] at h9
    exact (h9.alloc _).alloc _
  have hx3 : Blk W5 (w.heap.size + 1 + 1 + 1) 66 #[.int .i64 10, .int .i64 8, .int .i64 4] := by
    rw [← hW5]
    have h9 := Blk.new (((w.alloc (.cells #[.int .i64 2, .int .i64 4] 3)).alloc (.cells #[.int .i64 6, .int .i64 2, .int .i64 0, .int .i64 8, .int .i64 10, .int .i64 0] 64)).alloc (.cells #[.int .i64 6, .int .i64 8] 3)) 66 #[.int .i64 10, .int .i64 8, .int .i64 4]
    rw [show (((w.alloc (.cells #[.int .i64 2, .int .i64 4] 3)).alloc (.cells #[.int .i64 6, .int .i64 2, .int .i64 0, .int .i64 8, .int .i64 10, .int .i64 0] 64)).alloc (.cells #[.int .i64 6, .int .i64 8] 3)).heap.size = w.heap.size + 1 + 1 + 1 by simp] at h9
    exact h9.alloc _
  have hx4 : Blk W5 (w.heap.size + 1 + 1 + 1 + 1) 29 ((exCV w.heap.size (w.heap.size + 1) (w.heap.size + 1 + 1) (w.heap.size + 1 + 1 + 1)).cells 5) := by
    rw [← hW5]
    have h9 := Blk.new ((((w.alloc (.cells #[.int .i64 2, .int .i64 4] 3)).alloc (.cells #[.int .i64 6, .int .i64 2, .int .i64 0, .int .i64 8, .int .i64 10, .int .i64 0] 64)).alloc (.cells #[.int .i64 6, .int .i64 8] 3)).alloc (.cells #[.int .i64 10, .int .i64 8, .int .i64 4] 66)) 29 ((exCV w.heap.size (w.heap.size + 1) (w.heap.size + 1 + 1) (w.heap.size + 1 + 1 + 1)).cells 5)
    rw [show ((((w.alloc (.cells #[.int .i64 2, .int .i64 4] 3)).alloc (.cells #[.int .i64 6, .int .i64 2, .int .i64 0, .int .i64 8, .int .i64 10, .int .i64 0] 64)).alloc (.cells #[.int .i64 6, .int .i64 8] 3)).alloc (.cells #[.int .i64 10, .int .i64 8, .int .i64 4] 66)).heap.size = w.heap.size + 1 + 1 + 1 + 1 by simp] at h9
    exact h9
  have HA : Hid (∀ wz, Below W5.heap.size W5 wz → wz.heap[w.heap.size + 1 + 1 + 1 + 1]? = some (.cells ((exCV w.heap.size (w.heap.size + 1) (w.heap.size + 1 + 1) (w.heap.size + 1 + 1 + 1)).cells 5) 29 (0, 0)) ∧ exC.In wz (exCV w.heap.size (w.heap.size + 1) (w.heap.size + 1 + 1) (w.heap.size + 1 + 1 + 1))) := Lib.hid (fun wz hz => ⟨hx4.below hz hx4.lt, exC_in (hx0.below hz hx0.lt) (hx1.below hz hx1.lt) (hx2.below hz hx2.lt) (hx3.below hz hx3.lt)⟩)
  have HB5 := Lib.hid hB5
  have HH := Lib.hid (HA.out W5 (Below.refl _ _))
  have hp1 : ∀ wx : World, (Instr.build 31 #[(0, .int .u8 98)]).run Try.prog wx = .ok (.agg #[.int .u8 98, .int .i64 0]) wx := fun wx => run_build wx _ _ _ (by kernel_rfl)
  have hp2 : ∀ wx : World, (Instr.build 31 #[(0, .int .u8 98), (1, .int .i64 1)]).run Try.prog wx = .ok (.agg #[.int .u8 98, .int .i64 1]) wx := fun wx => run_build wx _ _ _ (by kernel_rfl)
  have hl1 : ∀ wx : World, (Instr.build 64 #[(0, .int .i64 4), (1, .int .i64 2)]).run Try.prog wx = .ok (.agg #[.int .i64 4, .int .i64 2, .int .i64 0]) wx := fun wx => run_build wx _ _ _ (by kernel_rfl)
  rw [show (((((w.alloc (.cells #[.int .i64 2, .int .i64 4] 3)).alloc (.cells #[.int .i64 6, .int .i64 2, .int .i64 0, .int .i64 8, .int .i64 10, .int .i64 0] 64)).alloc (.cells #[.int .i64 6, .int .i64 8] 3)).alloc (.cells #[.int .i64 10, .int .i64 8, .int .i64 4] 66)).alloc (.cells #[.int .i64 5, .slice (some ⟨w.heap.size, 0, none⟩) 2 2, .slice (some ⟨w.heap.size + 1, 0, none⟩) 2 2, .slice none 0 0, .slice (some ⟨w.heap.size + 1 + 1, 0, none⟩) 2 2, .slice none 0 0, .slice none 0 0, .slice none 0 0, .slice (some ⟨w.heap.size + 1 + 1 + 1, 0, none⟩) 1 1, .slice none 0 0, .slice none 0 0] 29)) = W5 from hW5]
  clear hB5 hx0 hx1 hx2 hx3 hx4 hW5
  go_upto_region 3 with (first
    | (refine wpList_load_row rfl 29 (.tmp 1) rfl (w.heap.size + 1 + 1 + 1 + 1) rfl 29 ((exCV w.heap.size (w.heap.size + 1) (w.heap.size + 1 + 1) (w.heap.size + 1 + 1 + 1)).cells 5) (0, 0) _ HH.out.1 Try.underlying29 rfl (by kernel_rfl) ?_)
    | (go_at_call 6; refine (HOF.out W5 _ _ _ _ HH.out.2).mono ?_; rintro e w6 ⟨hb6, A1, A4, A5, A8, Ai, At, n1, c1, n4, c4, n5, c5, n8, c8, ci, nt, ct, gl, off, cl, gm, mx, rfl, k0, k1, k2, hgl⟩; have HB6 := Lib.hid hb6; have HK := Lib.hid (And.intro k0 (And.intro k1 (And.intro k2 hgl))); clear hb6 k0 k1 k2 hgl))
  obtain ⟨W7, hW7⟩ : ∃ W7, w6.alloc (.cells #[.int .i64 mx, .slice A1 n1 c1, .slice (some ⟨gl, off, none⟩) 1 cl, .slice none 0 0, .slice A4 n4 c4, .slice A5 n5 c5, .slice none 0 0, .slice none 0 0, .slice A8 n8 c8, .slice none 0 0, .slice none 0 0, .slice (some ⟨gm, 0, none⟩) 6 6, .slice Ai 1 ci, .slice At nt ct] 34) = W7 := ⟨_, rfl⟩
  have hB67 : Below w6.heap.size w6 W7 := by rw [← hW7]; exact (Below.refl _ _).alloc (Nat.le_refl _) _
  have HB7 : Hid (Below W5.heap.size W5 W7) := Lib.hid (bt HB6.out (Nat.le_refl _) hB67)
  have hc7 : Blk W7 w6.heap.size 34 #[.int .i64 mx, .slice A1 n1 c1, .slice (some ⟨gl, off, none⟩) 1 cl, .slice none 0 0, .slice A4 n4 c4, .slice A5 n5 c5, .slice none 0 0, .slice none 0 0, .slice A8 n8 c8, .slice none 0 0, .slice none 0 0, .slice (some ⟨gm, 0, none⟩) 6 6, .slice Ai 1 ci, .slice At nt ct] := by rw [← hW7]; exact Blk.new w6 _ _
  have HC7 := Lib.hid hc7
  have HK7 : Hid (∀ wz, Below W7.heap.size W7 wz → wz.cell? ⟨w6.heap.size, 2, none⟩ = some (.slice (some ⟨gl, off, none⟩) 1 cl) ∧ wz.cell? ⟨w6.heap.size, 12, none⟩ = some (.slice Ai 1 ci) ∧ wz.cell? ⟨gl, off, none⟩ = some (.int .i64 4) ∧ wz.cell? ⟨gl, off + 1, none⟩ = some (.int .i64 2) ∧ wz.cell? ⟨gl, off + 2, none⟩ = some (.int .i64 0)) := Lib.hid (fun wz hz => by
    have q := HC7.out.below hz HC7.out.lt
    have hz2 : Below w6.heap.size w6 wz := bt hB67 (Nat.le_refl _) hz
    obtain ⟨k0, k1, k2, hgl⟩ := HK.out
    exact ⟨q.cell 2, q.cell 12, (hz2.cell (p := ⟨gl, off, none⟩) hgl).trans k0, (hz2.cell (p := ⟨gl, off + 1, none⟩) hgl).trans k1, (hz2.cell (p := ⟨gl, off + 2, none⟩) hgl).trans k2⟩)
  have HH7 := Lib.hid (HA.out W7 HB7.out)
  rw [hW7]
  obtain ⟨bk, hbk⟩ : ∃ bk, w6.heap.size = bk := ⟨_, rfl⟩
  rw [hbk] at HK7 ⊢
  clear hW7 hB67 hc7 HC7 HK hbk
  go_upto_region 4 with (first
    | (refine wpList_load_row rfl 29 (.tmp 1) rfl (w.heap.size + 1 + 1 + 1 + 1) rfl 29 ((exCV w.heap.size (w.heap.size + 1) (w.heap.size + 1 + 1) (w.heap.size + 1 + 1 + 1)).cells 5) (0, 0) _ HH7.out.1 Try.underlying29 rfl (by kernel_rfl) ?_)
    | (go_at_call 8; refine (HAL.out W7 _ _ _ _ HH7.out.2).mono ?_; rintro e w8 ⟨hb8, rfl⟩; have HB8 := Lib.hid hb8; clear hb8))
  obtain ⟨y2, y12, k0, k1, k2⟩ := HK7.out w8 HB8.out
  have HBE : Hid (Below w.heap.size w w8) := Lib.hid (bt HB5.out (Nat.le_refl _) (bt HB7.out (Nat.le_refl _) HB8.out))
  go_wp2
  go_ret
  exact ⟨rfl, HBE.out⟩
end Go.Proofs.Ytagffmalmkcboaa

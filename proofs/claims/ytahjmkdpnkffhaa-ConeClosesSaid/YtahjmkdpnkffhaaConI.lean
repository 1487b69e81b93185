/- Cone: the contracts of Of and Alike, of bads. -/
import Derived.Test.YtahjmkdpnkffhaaConH
namespace Go.Proofs.Ytahjmkdpnkffhaa
open Go.RowKit Go.Maps

theorem results_cell_one {fn : Func} {p q : Tmp} {ty : TypeId} {P : Program} (h : fn.results = #[.cell p ty, .tmp q]) (tmps : Array Value) (w : World) (g : Nat) (t : TypeId) (cs : Array Value) (fr : Nat × Nat) (d : TypeDesc)
    (hp : tmps.getD p undef = .pointer (some ⟨g, 0, none⟩)) (hg : w.heap[g]? = some (.cells cs t fr))
    (hu : P.underlying ty = some d) (hd : (match d with | .struct _ | .array _ _ => true | _ => false) = true) (hi : (P.info? ty).map (·.size) = some cs.size) (v : Value) (hv : tmps.getD q undef = v) :
    (results fn tmps).run P w = .ok (.tuple #[.agg cs, v]) w := by
  have hp' : tmps[p]?.getD undef = .pointer (some ⟨g, 0, none⟩) := by simpa using hp
  subst hv
  have hl := run_loadVar_row w g t ty cs fr d hg hu (by cases d <;> first | rfl | exact hd) hi
  simp [results, h, hp', asAddr, hl]
abbrev cut0 : Array Value := #[.int .i64 0, .slice none 0 0, .slice none 0 0, .slice none 0 0, .slice none 0 0, .slice none 0 0, .slice none 0 0, .slice none 0 0, .slice none 0 0, .slice none 0 0, .slice none 0 0, .slice none 0 0, .slice none 0 0, .slice none 0 0]
theorem props_row (w : World) (ps : List (Int × Int)) (hl : ps.length ≤ 100) : RowE 2 encPr (w.alloc (.cells (ps.flatMap encPr).toArray 81)) (.slice (some ⟨w.heap.size, 0, none⟩) ps.length ps.length) ps := by
  refine ⟨some ⟨w.heap.size, 0, none⟩, ps.length, rfl, Nat.le_refl _, by simp [maxLen]; omega, fun i z hz => ⟨w.heap.size, 0, rfl, by simp, fun j u hu => ?_⟩⟩
  rw [(Blk.new w 81 (ps.flatMap encPr).toArray).cell, List.getElem?_toArray, Nat.zero_add]
  have hj : j < 2 := by
    have := (List.getElem?_eq_some_iff.1 hu).1
    simpa using this
  rw [flat_get (enc := encPr) (k := 2) lenPr ps i z hz j hj]
  exact hu
theorem hasP_bad {C : Circ} {a : Int} (h : hasP C (98, a) = true) : 0 ≤ a ∧ a.toNat < C.bads.length := by
  unfold hasP cntP at h
  simp at h
  omega

set_option maxHeartbeats 8000000 in
set_option maxRecDepth 100000 in
theorem OfB_any (w : World) (V : CV) (C : Circ) (a : Int) (h : C.In w V) (ok : C.Ok) :
    Calls Try.prog 46 #[V.val C.max, .agg #[.int .u8 98, .int .i64 a]] w fun e w' => Below w.heap.size w w' ∧ ∃ cs, e = .returned (.tuple #[.agg cs, .int .i64 (propsE C [(98, a)])]) ∧ (propsE C [(98, a)] ≠ 0 → cs = cut0) ∧
      (propsE C [(98, a)] = 0 → ∃ (V' : CV) (lv iv tv : Value), cs = cutCells V' (cutX C (conB C a.toNat) a.toNat).max lv iv tv ∧ CutR w.heap.size w' V' lv iv tv C (conB C a.toNat) a.toNat) := by
  obtain ⟨W2, hW2⟩ : ∃ W2, ((w.alloc (.cells (V.cells C.max) 51)).alloc (.cells #[.int .u8 98, .int .i64 a] 81)).alloc (.cells cut0 83) = W2 := ⟨_, rfl⟩
  have HW2 := Lib.hid hW2
  have hB2 : Below w.heap.size w W2 := by rw [← hW2]; exact (((Below.refl _ _).alloc (Nat.le_refl _) _).alloc (by simp) _).alloc (by simp; omega) _
  have hX2 : Blk W2 w.heap.size 51 (V.cells C.max) := by rw [← hW2]; exact ((Blk.new w _ _).alloc _).alloc _
  have hP2 : Blk W2 (w.heap.size + 1) 81 #[.int .u8 98, .int .i64 a] := by
    rw [← hW2]
    have := (Blk.new (w.alloc (.cells (V.cells C.max) 51)) 81 #[.int .u8 98, .int .i64 a]).alloc (.cells cut0 83)
    rwa [show (w.alloc (.cells (V.cells C.max) 51)).heap.size = w.heap.size + 1 by simp] at this
  have hQ2 : Blk W2 (w.heap.size + 1 + 1) 83 cut0 := by
    rw [← hW2]
    have := Blk.new ((w.alloc (.cells (V.cells C.max) 51)).alloc (.cells #[.int .u8 98, .int .i64 a] 81)) 83 cut0
    rwa [show ((w.alloc (.cells (V.cells C.max) 51)).alloc (.cells #[.int .u8 98, .int .i64 a] 81)).heap.size = w.heap.size + 1 + 1 by simp] at this
  have HB2 := Lib.hid hB2
  have HX2 := Lib.hid hX2
  have HP2 := Lib.hid hP2
  have HQ2 := Lib.hid hQ2
  have HXH : Hid (∀ wz, Below W2.heap.size W2 wz → wz.heap[w.heap.size]? = some (.cells (V.cells C.max) 51 (0, 0)) ∧ wz.heap[w.heap.size + 1]? = some (.cells #[.int .u8 98, .int .i64 a] 81 (0, 0)) ∧ wz.heap[w.heap.size + 1 + 1]? = some (.cells cut0 83 (0, 0))) := Lib.hid (fun wz hz => ⟨HX2.out.below hz HX2.out.lt, HP2.out.below hz HP2.out.lt, HQ2.out.below hz HQ2.out.lt⟩)
  have HIN := Lib.hid (fun wz (hz : Below W2.heap.size W2 wz) => h.below (bt hB2 (Nat.le_refl _) hz))
  have HBF := Lib.hid (Below.refl W2.heap.size W2)
  have HBA : Hid (Below W2.heap.size W2 (W2.alloc (.cells #[.int .u8 98, .int .i64 a] 81))) := Lib.hid ((Below.refl _ _).alloc (Nat.le_refl _) _)
  have HROW : Hid (RowE 2 encPr (W2.alloc (.cells #[.int .u8 98, .int .i64 a] 81)) (.slice (some ⟨W2.heap.size, 0, none⟩) 1 1) [(98, a)]) := Lib.hid (props_row W2 [(98, a)] (by simp))
  have HCP := Lib.hid (checkProps_any (W2.alloc (.cells #[.int .u8 98, .int .i64 a] 81)) V C (.slice (some ⟨W2.heap.size, 0, none⟩) 1 1) [(98, a)] (HIN.out _ HBA.out) ok HROW.out (by simp))
  have hw2 : w.heap.size ≤ W2.heap.size := hB2.size
  have hbz : ∀ wx : World, (Instr.build 83 #[]).run Try.prog wx = .ok (.agg cut0) wx := fun wx => run_build wx _ _ _ (by kernel_rfl)
  clear hX2 hP2 hQ2 hW2 h ok HX2 HP2
  by_cases h0 : propsE C [(98, a)] = 0
  · obtain ⟨hz, hps⟩ := propsE_ok h0
    obtain ⟨ha0, ha1⟩ := hasP_bad (hps (98, a) (by simp))
    obtain ⟨k, rfl⟩ : ∃ k : Nat, a = (k : Int) := ⟨a.toNat, by omega⟩
    rw [show ((k : Int).toNat) = k by omega] at ha1 ⊢
    have HCO := Lib.hid (fun wz (hb : Below W2.heap.size W2 wz) => coneB_any wz V C k (HIN.out wz hb) hz ha1)
    have HCU := Lib.hid (fun wz (g : Nat) (hb : Below W2.heap.size W2 wz) (ht : Tab wz g (conB C k)) => cutB_any wz V C k g (conB C k) (HIN.out wz hb) hz ha1 ht (conB_len C k))
    rw [h0] at HCP ⊢
    obtain ⟨nx, hnx⟩ : ∃ nx, C.max.toNat + 1 = nx := ⟨_, rfl⟩
    rw [hnx] at HCO HCU
    clear hz hps ha0 ha1 h0 hnx
    obtain ⟨Vi, Vl, Vo, Vb, Vc, Vj, Vf, Va, Vs, Vt⟩ := V
    have HC : Hid (∀ wz, Below W2.heap.size W2 wz → wz.cell? ⟨w.heap.size, 0, none⟩ = some (.int .i64 C.max) ∧ wz.cell? ⟨w.heap.size, 1, none⟩ = some Vi ∧ wz.cell? ⟨w.heap.size, 2, none⟩ = some Vl ∧ wz.cell? ⟨w.heap.size, 3, none⟩ = some Vo ∧ wz.cell? ⟨w.heap.size, 4, none⟩ = some Vb ∧ wz.cell? ⟨w.heap.size, 5, none⟩ = some Vc ∧ wz.cell? ⟨w.heap.size, 6, none⟩ = some Vj ∧ wz.cell? ⟨w.heap.size, 7, none⟩ = some Vf ∧ wz.cell? ⟨w.heap.size, 8, none⟩ = some Va ∧ wz.cell? ⟨w.heap.size, 9, none⟩ = some Vs ∧ wz.cell? ⟨w.heap.size, 10, none⟩ = some Vt ∧ wz.cell? ⟨w.heap.size + 1, 0, none⟩ = some (.int .u8 98) ∧ wz.cell? ⟨w.heap.size + 1, 1, none⟩ = some (.int .i64 k)) := Lib.hid (fun wz hz => by
      obtain ⟨q1, q2, _⟩ := HXH.out wz hz
      have q1 : Blk wz w.heap.size 51 _ := q1
      have q2 : Blk wz (w.heap.size + 1) 81 _ := q2
      exact ⟨q1.cell 0, q1.cell 1, q1.cell 2, q1.cell 3, q1.cell 4, q1.cell 5, q1.cell 6, q1.cell 7, q1.cell 8, q1.cell 9, q1.cell 10, q2.cell 0, q2.cell 1⟩)
    go_enter Try.func46, Try.ntmps46
    go_upto_region 1 with (fail)
    rw [HW2.out]
    have HH := Lib.hid (HXH.out W2 HBF.out)
    go_upto_region 4 with (first
      | (refine wpList_load_row rfl 51 (.tmp 2) rfl w.heap.size rfl 51 (({ i := Vi, l := Vl, o := Vo, b := Vb, c := Vc, j := Vj, f := Vf, a := Va, s := Vs, t := Vt } : CV).cells C.max) (0, 0) _ HH.out.1 Try.underlying51 rfl (by kernel_rfl) ?_)
      | (refine wpList_load_row rfl 81 (.tmp 3) rfl (w.heap.size + 1) rfl 81 #[.int .u8 98, .int .i64 k] (0, 0) _ HH.out.2.1 Try.underlying81 rfl (by kernel_rfl) ?_)
      | (go_at_call 108; refine HCP.out.mono ?_; rintro e w3 ⟨rfl, hb3⟩; have HB3 := Lib.hid (bt HBA.out (Nat.le_refl _) hb3); clear hb3))
    refine wp_region_T (by kernel_rfl) (fun wz => wz.cell? ⟨w.heap.size, 0, none⟩ = some (.int .i64 C.max) ∧ wz.cell? ⟨w.heap.size, 1, none⟩ = some Vi ∧ wz.cell? ⟨w.heap.size, 2, none⟩ = some Vl ∧ wz.cell? ⟨w.heap.size, 3, none⟩ = some Vo ∧ wz.cell? ⟨w.heap.size, 4, none⟩ = some Vb ∧ wz.cell? ⟨w.heap.size, 5, none⟩ = some Vc ∧ wz.cell? ⟨w.heap.size, 6, none⟩ = some Vj ∧ wz.cell? ⟨w.heap.size, 7, none⟩ = some Vf ∧ wz.cell? ⟨w.heap.size, 8, none⟩ = some Va ∧ wz.cell? ⟨w.heap.size, 9, none⟩ = some Vs ∧ wz.cell? ⟨w.heap.size, 10, none⟩ = some Vt ∧ wz.cell? ⟨w.heap.size + 1, 0, none⟩ = some (.int .u8 98) ∧ wz.cell? ⟨w.heap.size + 1, 1, none⟩ = some (.int .i64 k)) 6 ?_
    have HD0 : Hid (Below W2.heap.size W2 w3.drew) := Lib.hid HB3.out.drew
    have hHeld := HC.out _ HD0.out
    refine wpAnyT_take (i := 0) (oi := { dst := some 15, op := Op.load 51 (Operand.tmp 2), type := 51, pos := "cone.go:30", after := #[], guard := none }) (v := ?v0r4q1) rfl (by kernel_rfl) (fun _ _ _ h => h) (by rfl) hHeld ?h0r4q1 ?_
    case h0r4q1 => (intro w' hSw; (try dsimp only at hSw); go_simp; try with_reducible rfl)
    (try simp only [Act.put, List.setIfInBounds_toArray, List.set_cons_zero, List.set_cons_succ])
    refine wpAnyT_take (i := 1) (oi := { dst := some 16, op := Op.load 81 (Operand.tmp 3), type := 81, pos := "cone.go:30", after := #[], guard := none }) (v := ?v1r4q1) rfl (by kernel_rfl) (fun _ _ _ h => h) (by rfl) hHeld ?h1r4q1 ?_
    case h1r4q1 => (intro w' hSw; (try dsimp only at hSw); go_simp; try with_reducible rfl)
    (try simp only [Act.put, List.setIfInBounds_toArray, List.set_cons_zero, List.set_cons_succ])
    refine wpAnyT_take (i := 2) (oi := { dst := some 17, op := Op.load 51 (Operand.tmp 2), type := 51, pos := "cone.go:30", after := #[], guard := none }) (v := ?v2r4q1) rfl (by kernel_rfl) (fun _ _ _ h => h) (by rfl) hHeld ?h2r4q1 ?_
    case h2r4q1 => (intro w' hSw; (try dsimp only at hSw); go_simp; try with_reducible rfl)
    (try simp only [Act.put, List.setIfInBounds_toArray, List.set_cons_zero, List.set_cons_succ])
    refine wpAnyT_take (i := 3) (oi := { dst := some 18, op := Op.load 81 (Operand.tmp 3), type := 81, pos := "cone.go:30", after := #[], guard := none }) (v := ?v3r4q1) rfl (by kernel_rfl) (fun _ _ _ h => h) (by rfl) hHeld ?h3r4q1 ?_
    case h3r4q1 => (intro w' hSw; (try dsimp only at hSw); go_simp; try with_reducible rfl)
    (try simp only [Act.put, List.setIfInBounds_toArray, List.set_cons_zero, List.set_cons_succ])
    clear hHeld
    refine wpAnyT_one (i := 4) (o := { dst := some 19, op := Op.call { callee := Callee.value (Operand.func 110), args := #[Operand.tmp 17, Operand.tmp 18], argTypes := #[51, 81] }, type := 143, pos := "cone.go:30", after := #[{ on := 2, ground := Ground.data }, { on := 3, ground := Ground.data }], guard := none }) rfl (by kernel_rfl) (fun K hK => ?_)
    go_simp
    go_at_call 110
    refine (HCO.out _ HD0.out).mono ?_
    rintro e w4 ⟨g, rfl, hg4, hb4, ht4⟩
    have HB4 := Lib.hid (bt HD0.out (Nat.le_refl _) hb4)
    have HT4 := Lib.hid ht4
    refine hK.out _ _ (fun _ => HC.out _ HB4.out) ?_
    clear hK K hb4 ht4
    (try simp only [Act.put, List.setIfInBounds_toArray, List.set_cons_zero, List.set_cons_succ])
    refine wpAnyT_one (i := 5) (o := { dst := some 20, op := Op.call { callee := Callee.value (Operand.func 109), args := #[Operand.tmp 15, Operand.tmp 16, Operand.tmp 19], argTypes := #[51, 81, 143] }, type := 83, pos := "cone.go:30", after := #[{ on := 0, ground := Ground.data }, { on := 1, ground := Ground.data }, { on := 4, ground := Ground.data }, { on := 4, ground := Ground.chain }], guard := none }) rfl (by kernel_rfl) (fun K hK => ?_)
    go_simp
    go_at_call 109
    refine (HCU.out _ g HB4.out HT4.out).mono ?_
    rintro e w5 ⟨V', lv, iv, tv, rfl, hb5, hcr⟩
    have HB5 := Lib.hid (bt HB4.out (Nat.le_refl _) hb5)
    have HCR := Lib.hid hcr
    have HS45 : Hid (W2.heap.size ≤ w4.heap.size) := Lib.hid HB4.out.size
    refine hK.out _ _ (fun _ => HC.out _ HB5.out) ?_
    clear hK K hb5 hcr
    (try simp only [Act.put, List.setIfInBounds_toArray, List.set_cons_zero, List.set_cons_succ])
    have HON : Hid ((cutCells V' (cutX C (conB C k) k).max lv iv tv).all (·.oneCell') = true) := Lib.hid (by
      have hc := HCR.out
      obtain ⟨A1, c1, e1⟩ := own_slice1 hc.i
      obtain ⟨A2, c2, e2⟩ := own_slice1 hc.l
      obtain ⟨A4, c4, e4⟩ := own_slice1 hc.b
      obtain ⟨A5, c5, e5⟩ := own_slice1 hc.c
      obtain ⟨A8, c8, e8⟩ := own_slice1 hc.a
      obtain ⟨gm, em, _, _⟩ := hc.m
      obtain ⟨Ai, ci, ei⟩ := own_slice1 hc.iv
      obtain ⟨At, ct, et⟩ := own_slice1 hc.tv
      simp [cutCells, e1, e2, e4, e5, e8, em, ei, et, hc.zo, hc.zj, hc.zf, hc.zs, hc.zt, Value.oneCell'])
    obtain ⟨CY, hCY⟩ : ∃ CY : Array Value, cutCells V' (cutX C (conB C k) k).max lv iv tv = CY := ⟨_, rfl⟩
    have HSZ : Hid (CY.size = 14) := Lib.hid (by rw [← hCY]; rfl)
    have HCY := Lib.hid hCY
    have hsi : (Try.prog.info? 83).map (·.size) = some CY.size := by rw [HSZ.out]; kernel_rfl
    rw [hCY] at HON ⊢
    refine wpAnyT_one (i := 6) (o := { dst := none, op := Op.store 83 (Operand.tmp 4) (Operand.tmp 20), type := 0, pos := "cone.go:30", after := #[{ on := 5, ground := Ground.data }, { on := 5, ground := Ground.chain }, { on := 0, ground := Ground.phase }, { on := 1, ground := Ground.phase }, { on := 2, ground := Ground.phase }, { on := 3, ground := Ground.phase }, { on := 4, ground := Ground.phase }, { on := 5, ground := Ground.phase }], guard := none }) rfl (by kernel_rfl) (fun K hK => ?_)
    refine step_store_row rfl 83 (.tmp 4) (.tmp 20) rfl (w.heap.size + 1 + 1) CY rfl rfl 83 cut0 (HXH.out w5 HB5.out).2.2 hsi (by rw [HSZ.out]; rfl) HON.out ?_
    refine hK.out _ _ (fun h => absurd h (by decide)) ?_
    clear hK K
    (try simp only [Act.put])
    refine wpAnyT_one (i := 7) (o := { dst := some 5, op := Op.assign (Operand.const (Value.int IntKind.i64 0)), type := 26, pos := "cone.go:30", after := #[{ on := 6, ground := Ground.chain }, { on := 0, ground := Ground.phase }, { on := 1, ground := Ground.phase }, { on := 2, ground := Ground.phase }, { on := 3, ground := Ground.phase }, { on := 4, ground := Ground.phase }, { on := 5, ground := Ground.phase }, { on := 6, ground := Ground.phase }], guard := none }) rfl (by kernel_rfl) (fun K hK => ?_)
    go_simp
    refine hK.out _ _ (fun h => absurd h (by decide)) ?_
    clear hK K
    (try simp only [Act.put, List.setIfInBounds_toArray, List.set_cons_zero, List.set_cons_succ])
    refine wpAnyT_done (by kernel_rfl) ?_
    have hw10 : Blk (w5.setRow (w.heap.size + 1 + 1) CY) (w.heap.size + 1 + 1) 83 CY := setRow_heap w5 (w.heap.size + 1 + 1) _ CY _ _ (HXH.out w5 HB5.out).2.2
    go_wp2
    refine bodyPost_ret (results_cell_one (fn := Try.f46) (p := 4) (q := 5) rfl _ _ (w.heap.size + 1 + 1) 83 CY (0, 0) _ rfl hw10 Try.underlying83 rfl hsi (.int .i64 0) rfl) rfl ?_
    have hbf : Below w.heap.size w (w5.setRow (w.heap.size + 1 + 1) CY) := (bt HB2.out (Nat.le_refl _) HB5.out).trans ⟨rfl, rfl, rfl, by rw [size_setRow]; exact Nat.le_refl _, fun k hk => setRow_other _ _ _ _ (by omega)⟩
    have hQ5 : Blk w5 (w.heap.size + 1 + 1) 83 cut0 := (HXH.out w5 HB5.out).2.2
    have hne : ∀ {B : Nat} {t : TypeId} {k n : Nat} {v : Value} {xs : List Value}, w5.ownsRow B t k v n xs → t ≠ 83 → (w5.setRow (w.heap.size + 1 + 1) CY).ownsRow B t k v n xs := fun ho ht =>
      own_of_block ho fun g9 hg9 => setRow_other _ _ _ _ (fun e => own_blk_ne ho hQ5 ht (by rw [hg9, e]))
    have hle : w.heap.size ≤ w4.heap.size := Nat.le_trans hw2 HS45.out
    have hc := HCR.out
    refine ⟨hbf, CY, rfl, fun h => absurd rfl h, fun _ => ⟨V', lv, iv, tv, hCY.symm, ?_⟩⟩
    obtain ⟨gm, em, hgm, hnm⟩ := hc.m
    exact ⟨hne (own_le hc.i hle) (by decide), hne (own_le hc.l hle) (by decide), hne (own_le hc.b hle) (by decide), hne (own_le hc.c hle) (by decide), hne (own_le hc.a hle) (by decide), hc.zo, hc.zj, hc.zf, hc.zs, hc.zt,
      ⟨gm, em, Nat.le_trans hle hgm, (setRow_other _ _ _ _ (hnm.ne_ hQ5 (by decide))).trans hnm⟩, hne (own_le hc.iv hle) (by decide), hne (own_le hc.tv hle) (by decide)⟩
  · generalize propsE C [(98, a)] = r at *
    have H0 := Lib.hid h0
    have hq : (r != 0) = true := by simpa using h0
    clear h0
    have hw10 := fun (wz : World) (hz : Below W2.heap.size W2 wz) => (show Blk (wz.setRow (w.heap.size + 1 + 1) cut0) (w.heap.size + 1 + 1) 83 cut0 from setRow_heap wz (w.heap.size + 1 + 1) _ cut0 _ _ (HXH.out wz hz).2.2)
    have H10 := Lib.hid hw10
    clear hw10
    go_enter Try.func46, Try.ntmps46
    go_upto_region 1 with (fail)
    rw [HW2.out]
    have HH := Lib.hid (HXH.out W2 HBF.out)
    go_wp2_with (first
      | (refine wpList_load_row rfl 51 (.tmp 2) rfl w.heap.size rfl 51 (V.cells C.max) (0, 0) _ HH.out.1 Try.underlying51 rfl (by kernel_rfl) ?_)
      | (refine wpList_load_row rfl 81 (.tmp 3) rfl (w.heap.size + 1) rfl 81 #[.int .u8 98, .int .i64 a] (0, 0) _ HH.out.2.1 Try.underlying81 rfl (by kernel_rfl) ?_)
      | (go_at_call 108; refine HCP.out.mono ?_; rintro e w3 ⟨rfl, hb3⟩; have HB3 := Lib.hid (bt HBA.out (Nat.le_refl _) hb3); clear hb3)
      | (refine wpList_store_row rfl 83 (.tmp 4) (.tmp 13) rfl (w.heap.size + 1 + 1) cut0 rfl rfl 83 _ (HXH.out w3 HB3.out).2.2 (by kernel_rfl) rfl (by simp [Value.oneCell']) ?_))
    refine bodyPost_ret (results_cell_one (fn := Try.f46) (p := 4) (q := 5) rfl _ _ (w.heap.size + 1 + 1) 83 cut0 (0, 0) _ rfl (H10.out w3 HB3.out) Try.underlying83 rfl (by kernel_rfl) (.int .i64 r) rfl) rfl ?_
    have hbf : Below w.heap.size w (w3.setRow (w.heap.size + 1 + 1) cut0) := (bt HB2.out (Nat.le_refl _) HB3.out).trans ⟨rfl, rfl, rfl, by rw [size_setRow]; exact Nat.le_refl _, fun k hk => setRow_other _ _ _ _ (by omega)⟩
    exact ⟨hbf, cut0, rfl, fun _ => rfl, fun h => absurd h H0.out⟩
end Go.Proofs.Ytahjmkdpnkffhaa

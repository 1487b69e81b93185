/- Cone: the contract of Alike, of bads. -/
import Derived.Test.YtahjmkdpnkffhaaConI
namespace Go.Proofs.Ytahjmkdpnkffhaa
open Go.RowKit Go.Maps

def bothF (s t : List Bool) (zs : List Tri) : Nat := (zs.filter fun z => s.getD (vOf z.1) false && t.getD (vOf z.1) false).length
def someF (s t : List Bool) (zs : List Tri) : Nat := (zs.filter fun z => s.getD (vOf z.1) false || t.getD (vOf z.1) false).length
theorem bothF_snoc (s t : List Bool) (zs : List Tri) (z : Tri) : bothF s t (zs ++ [z]) = bothF s t zs + (if (s.getD (vOf z.1) false && t.getD (vOf z.1) false) = true then 1 else 0) := by
  unfold bothF
  rw [List.filter_append, List.length_append]
  congr 1
  rw [List.filter_cons]
  split <;> rfl
theorem someF_snoc (s t : List Bool) (zs : List Tri) (z : Tri) : someF s t (zs ++ [z]) = someF s t zs + (if (s.getD (vOf z.1) false || t.getD (vOf z.1) false) = true then 1 else 0) := by
  unfold someF
  rw [List.filter_append, List.length_append]
  congr 1
  rw [List.filter_cons]
  split <;> rfl
theorem bothF_le (s t : List Bool) (zs : List Tri) : bothF s t zs ≤ zs.length := List.length_filter_le _ _
theorem someF_le (s t : List Bool) (zs : List Tri) : someF s t zs ≤ zs.length := List.length_filter_le _ _
noncomputable def alikeR (C : Circ) (a b : Int) : Int × Int × Int := if propsE C [(98, a), (98, b)] = 0 then ((bothF (conB C a.toNat) (conB C b.toNat) C.latches : Int), (someF (conB C a.toNat) (conB C b.toNat) C.latches : Int), 0) else (0, 0, propsE C [(98, a), (98, b)])

set_option maxHeartbeats 8000000 in
set_option maxRecDepth 100000 in
theorem AlikeB_any (w : World) (V : CV) (C : Circ) (a b : Int) (h : C.In w V) (ok : C.Ok) :
    Calls Try.prog 48 #[V.val C.max, .agg #[.int .u8 98, .int .i64 a], .agg #[.int .u8 98, .int .i64 b]] w fun e w' => Below w.heap.size w w' ∧ e = .returned (.tuple #[.int .i64 (alikeR C a b).1, .int .i64 (alikeR C a b).2.1, .int .i64 (alikeR C a b).2.2]) := by
  obtain ⟨W2, hW2⟩ : ∃ W2, ((w.alloc (.cells (V.cells C.max) 51)).alloc (.cells #[.int .u8 98, .int .i64 a] 81)).alloc (.cells #[.int .u8 98, .int .i64 b] 81) = W2 := ⟨_, rfl⟩
  have HW2 := Lib.hid hW2
  have hB2 : Below w.heap.size w W2 := by rw [← hW2]; exact (((Below.refl _ _).alloc (Nat.le_refl _) _).alloc (by simp) _).alloc (by simp; omega) _
  have hX2 : Blk W2 w.heap.size 51 (V.cells C.max) := by rw [← hW2]; exact ((Blk.new w _ _).alloc _).alloc _
  have hP2 : Blk W2 (w.heap.size + 1) 81 #[.int .u8 98, .int .i64 a] := by
    rw [← hW2]
    have := (Blk.new (w.alloc (.cells (V.cells C.max) 51)) 81 #[.int .u8 98, .int .i64 a]).alloc (.cells #[.int .u8 98, .int .i64 b] 81)
    rwa [show (w.alloc (.cells (V.cells C.max) 51)).heap.size = w.heap.size + 1 by simp] at this
  have hQ2 : Blk W2 (w.heap.size + 1 + 1) 81 #[.int .u8 98, .int .i64 b] := by
    rw [← hW2]
    have := Blk.new ((w.alloc (.cells (V.cells C.max) 51)).alloc (.cells #[.int .u8 98, .int .i64 a] 81)) 81 #[.int .u8 98, .int .i64 b]
    rwa [show ((w.alloc (.cells (V.cells C.max) 51)).alloc (.cells #[.int .u8 98, .int .i64 a] 81)).heap.size = w.heap.size + 1 + 1 by simp] at this
  have HB2 := Lib.hid hB2
  have HXH : Hid (∀ wz, Below W2.heap.size W2 wz → wz.heap[w.heap.size]? = some (.cells (V.cells C.max) 51 (0, 0)) ∧ wz.heap[w.heap.size + 1]? = some (.cells #[.int .u8 98, .int .i64 a] 81 (0, 0)) ∧ wz.heap[w.heap.size + 1 + 1]? = some (.cells #[.int .u8 98, .int .i64 b] 81 (0, 0))) := Lib.hid (fun wz hz => ⟨hX2.below hz hX2.lt, hP2.below hz hP2.lt, hQ2.below hz hQ2.lt⟩)
  have HIN := Lib.hid (fun wz (hz : Below W2.heap.size W2 wz) => h.below (bt hB2 (Nat.le_refl _) hz))
  have HBF := Lib.hid (Below.refl W2.heap.size W2)
  have HBA : Hid (Below W2.heap.size W2 (W2.alloc (.cells #[.int .u8 98, .int .i64 a, .int .u8 98, .int .i64 b] 81))) := Lib.hid ((Below.refl _ _).alloc (Nat.le_refl _) _)
  have HROW : Hid (RowE 2 encPr (W2.alloc (.cells #[.int .u8 98, .int .i64 a, .int .u8 98, .int .i64 b] 81)) (.slice (some ⟨W2.heap.size, 0, none⟩) 2 2) [(98, a), (98, b)]) := Lib.hid (props_row W2 [(98, a), (98, b)] (by simp))
  have HCP := Lib.hid (checkProps_any (W2.alloc (.cells #[.int .u8 98, .int .i64 a, .int .u8 98, .int .i64 b] 81)) V C (.slice (some ⟨W2.heap.size, 0, none⟩) 2 2) [(98, a), (98, b)] (HIN.out _ HBA.out) ok HROW.out (by simp))
  have hAR : alikeR C a b = if propsE C [(98, a), (98, b)] = 0 then ((bothF (conB C a.toNat) (conB C b.toNat) C.latches : Int), (someF (conB C a.toNat) (conB C b.toNat) C.latches : Int), 0) else (0, 0, propsE C [(98, a), (98, b)]) := rfl
  have HAR := Lib.hid hAR
  clear hX2 hP2 hQ2 hW2 h ok hB2 hAR
  by_cases h0 : propsE C [(98, a), (98, b)] = 0
  · obtain ⟨hz, hps⟩ := propsE_ok h0
    obtain ⟨ha0, ha1⟩ := hasP_bad (hps (98, a) (by simp))
    obtain ⟨hb0, hb1⟩ := hasP_bad (hps (98, b) (by simp))
    obtain ⟨ka, rfl⟩ : ∃ k : Nat, a = (k : Int) := ⟨a.toNat, by omega⟩
    obtain ⟨kb, rfl⟩ : ∃ k : Nat, b = (k : Int) := ⟨b.toNat, by omega⟩
    rw [show ((ka : Int).toNat) = ka by omega] at ha1 HAR
    rw [show ((kb : Int).toNat) = kb by omega] at hb1 HAR
    have HRT := Lib.hid (right_of hz)
    have HCA := Lib.hid (fun wz (hb : Below W2.heap.size W2 wz) => coneB_any wz V C ka (HIN.out wz hb) hz ha1)
    have HCB := Lib.hid (fun wz (hb : Below W2.heap.size W2 wz) => coneB_any wz V C kb (HIN.out wz hb) hz hb1)
    have HAE : Hid (alikeR C ka kb = ((bothF (conB C ka) (conB C kb) C.latches : Int), (someF (conB C ka) (conB C kb) C.latches : Int), 0)) := Lib.hid (by rw [HAR.out, if_pos h0])
    have HLA := Lib.hid (conB_len C ka)
    have HLB := Lib.hid (conB_len C kb)
    rw [h0] at HCP
    rw [HAE.out]
    obtain ⟨nx, hnx⟩ : ∃ nx, C.max.toNat + 1 = nx := ⟨_, rfl⟩
    rw [hnx] at HCA HCB HLA HLB
    have HNX := Lib.hid hnx
    obtain ⟨sa, hsa⟩ : ∃ sa, conB C ka = sa := ⟨_, rfl⟩
    obtain ⟨sb, hsb⟩ : ∃ sb, conB C kb = sb := ⟨_, rfl⟩
    rw [hsa] at HCA HLA
    rw [hsb] at HCB HLB
    rw [hsa, hsb]
    clear hz hps ha0 ha1 hb0 hb1 h0 hnx HAR HAE hsa hsb
    obtain ⟨nL, hnL⟩ : ∃ n, C.latches.length = n := ⟨_, rfl⟩
    have HNL := Lib.hid hnL
    have hnL16 : nL ≤ 16384 := by rw [← hnL]; exact HRT.out.nl
    obtain ⟨Vi, Vl, Vo, Vb, Vc, Vj, Vf, Va, Vs, Vt⟩ := V
    obtain ⟨AL, cL, eL, _, _, hL⟩ := (HIN.out W2 HBF.out).l
    simp only at eL
    subst eL
    rw [hnL] at HXH HIN HCP HCA HCB HW2 ⊢
    have HLR := Lib.hid hL
    clear hL hnL
    have HC : Hid (∀ wz, Below W2.heap.size W2 wz → wz.cell? ⟨w.heap.size, 0, none⟩ = some (.int .i64 C.max) ∧ wz.cell? ⟨w.heap.size, 1, none⟩ = some Vi ∧ wz.cell? ⟨w.heap.size, 2, none⟩ = some (.slice AL nL cL) ∧ wz.cell? ⟨w.heap.size, 3, none⟩ = some Vo ∧ wz.cell? ⟨w.heap.size, 4, none⟩ = some Vb ∧ wz.cell? ⟨w.heap.size, 5, none⟩ = some Vc ∧ wz.cell? ⟨w.heap.size, 6, none⟩ = some Vj ∧ wz.cell? ⟨w.heap.size, 7, none⟩ = some Vf ∧ wz.cell? ⟨w.heap.size, 8, none⟩ = some Va ∧ wz.cell? ⟨w.heap.size, 9, none⟩ = some Vs ∧ wz.cell? ⟨w.heap.size, 10, none⟩ = some Vt ∧ wz.cell? ⟨w.heap.size + 1, 0, none⟩ = some (.int .u8 98) ∧ wz.cell? ⟨w.heap.size + 1, 1, none⟩ = some (.int .i64 ka) ∧ wz.cell? ⟨w.heap.size + 1 + 1, 0, none⟩ = some (.int .u8 98) ∧ wz.cell? ⟨w.heap.size + 1 + 1, 1, none⟩ = some (.int .i64 kb)) := Lib.hid (fun wz hz => by
      obtain ⟨q1, q2, q3⟩ := HXH.out wz hz
      have q1 : Blk wz w.heap.size 51 _ := q1
      have q2 : Blk wz (w.heap.size + 1) 81 _ := q2
      have q3 : Blk wz (w.heap.size + 1 + 1) 81 _ := q3
      exact ⟨q1.cell 0, q1.cell 1, q1.cell 2, q1.cell 3, q1.cell 4, q1.cell 5, q1.cell 6, q1.cell 7, q1.cell 8, q1.cell 9, q1.cell 10, q2.cell 0, q2.cell 1, q3.cell 0, q3.cell 1⟩)
    go_enter Try.func48, Try.ntmps48
    go_upto_region 1 with (fail)
    rw [HW2.out]
    have HH := Lib.hid (HXH.out W2 HBF.out)
    go_upto_region 5 with (first
      | (refine wpList_load_row rfl 51 (.tmp 3) rfl w.heap.size rfl 51 (({ i := Vi, l := .slice AL nL cL, o := Vo, b := Vb, c := Vc, j := Vj, f := Vf, a := Va, s := Vs, t := Vt } : CV).cells C.max) (0, 0) _ HH.out.1 Try.underlying51 rfl (by kernel_rfl) ?_)
      | (refine wpList_load_row rfl 81 (.tmp 4) rfl (w.heap.size + 1) rfl 81 #[.int .u8 98, .int .i64 ka] (0, 0) _ HH.out.2.1 Try.underlying81 rfl (by kernel_rfl) ?_)
      | (refine wpList_load_row rfl 81 (.tmp 5) rfl (w.heap.size + 1 + 1) rfl 81 #[.int .u8 98, .int .i64 kb] (0, 0) _ HH.out.2.2 Try.underlying81 rfl (by kernel_rfl) ?_)
      | (go_at_call 108; refine HCP.out.mono ?_; rintro e w3 ⟨rfl, hb3⟩; have HB3 := Lib.hid (bt HBA.out (Nat.le_refl _) hb3); clear hb3))
    refine wp_region_T (by kernel_rfl) (fun wz => wz.cell? ⟨w.heap.size, 0, none⟩ = some (.int .i64 C.max) ∧ wz.cell? ⟨w.heap.size, 1, none⟩ = some Vi ∧ wz.cell? ⟨w.heap.size, 2, none⟩ = some (.slice AL nL cL) ∧ wz.cell? ⟨w.heap.size, 3, none⟩ = some Vo ∧ wz.cell? ⟨w.heap.size, 4, none⟩ = some Vb ∧ wz.cell? ⟨w.heap.size, 5, none⟩ = some Vc ∧ wz.cell? ⟨w.heap.size, 6, none⟩ = some Vj ∧ wz.cell? ⟨w.heap.size, 7, none⟩ = some Vf ∧ wz.cell? ⟨w.heap.size, 8, none⟩ = some Va ∧ wz.cell? ⟨w.heap.size, 9, none⟩ = some Vs ∧ wz.cell? ⟨w.heap.size, 10, none⟩ = some Vt ∧ wz.cell? ⟨w.heap.size + 1, 0, none⟩ = some (.int .u8 98) ∧ wz.cell? ⟨w.heap.size + 1, 1, none⟩ = some (.int .i64 ka) ∧ wz.cell? ⟨w.heap.size + 1 + 1, 0, none⟩ = some (.int .u8 98) ∧ wz.cell? ⟨w.heap.size + 1 + 1, 1, none⟩ = some (.int .i64 kb)) 8 ?_
    have HD0 : Hid (Below W2.heap.size W2 w3.drew) := Lib.hid HB3.out.drew
    have hHeld := HC.out _ HD0.out
    refine wpAnyT_take (i := 0) (oi := { dst := some 26, op := Op.load 51 (Operand.tmp 3), type := 51, pos := "cone.go:65", after := #[], guard := none }) (v := ?v0r5q1) rfl (by kernel_rfl) (fun _ _ _ h => h) (by rfl) hHeld ?h0r5q1 ?_
    case h0r5q1 => (intro w' hSw; (try dsimp only at hSw); go_simp; try with_reducible rfl)
    (try simp only [Act.put, List.setIfInBounds_toArray, List.set_cons_zero, List.set_cons_succ])
    refine wpAnyT_take (i := 1) (oi := { dst := some 27, op := Op.load 81 (Operand.tmp 4), type := 81, pos := "cone.go:65", after := #[], guard := none }) (v := ?v1r5q1) rfl (by kernel_rfl) (fun _ _ _ h => h) (by rfl) hHeld ?h1r5q1 ?_
    case h1r5q1 => (intro w' hSw; (try dsimp only at hSw); go_simp; try with_reducible rfl)
    (try simp only [Act.put, List.setIfInBounds_toArray, List.set_cons_zero, List.set_cons_succ])
    refine wpAnyT_take (i := 3) (oi := { dst := some 29, op := Op.load 51 (Operand.tmp 3), type := 51, pos := "cone.go:65", after := #[], guard := none }) (v := ?v3r5q2) rfl (by kernel_rfl) (fun _ _ _ h => h) (by rfl) hHeld ?h3r5q2 ?_
    case h3r5q2 => (intro w' hSw; (try dsimp only at hSw); go_simp; try with_reducible rfl)
    (try simp only [Act.put, List.setIfInBounds_toArray, List.set_cons_zero, List.set_cons_succ])
    refine wpAnyT_take (i := 4) (oi := { dst := some 30, op := Op.load 81 (Operand.tmp 5), type := 81, pos := "cone.go:65", after := #[], guard := none }) (v := ?v4r5q2) rfl (by kernel_rfl) (fun _ _ _ h => h) (by rfl) hHeld ?h4r5q2 ?_
    case h4r5q2 => (intro w' hSw; (try dsimp only at hSw); go_simp; try with_reducible rfl)
    (try simp only [Act.put, List.setIfInBounds_toArray, List.set_cons_zero, List.set_cons_succ])
    clear hHeld
    refine wpAnyT_one (i := 2) (o := { dst := some 28, op := Op.call { callee := Callee.value (Operand.func 110), args := #[Operand.tmp 26, Operand.tmp 27], argTypes := #[51, 81] }, type := 143, pos := "cone.go:65", after := #[{ on := 0, ground := Ground.data }, { on := 1, ground := Ground.data }], guard := none }) rfl (by kernel_rfl) (fun K hK => ?_)
    go_simp
    go_at_call 110
    refine (HCA.out _ HD0.out).mono ?_
    rintro e w4 ⟨ga, rfl, hg4, hb4, ht4⟩
    have HB4 := Lib.hid (bt HD0.out (Nat.le_refl _) hb4)
    have HT4 := Lib.hid ht4
    refine hK.out _ _ (fun _ => HC.out _ HB4.out) ?_
    clear hK K hb4 ht4
    (try simp only [Act.put, List.setIfInBounds_toArray, List.set_cons_zero, List.set_cons_succ])
    refine wpAnyT_one (i := 5) (o := { dst := some 31, op := Op.call { callee := Callee.value (Operand.func 110), args := #[Operand.tmp 29, Operand.tmp 30], argTypes := #[51, 81] }, type := 143, pos := "cone.go:65", after := #[{ on := 3, ground := Ground.data }, { on := 4, ground := Ground.data }, { on := 2, ground := Ground.chain }], guard := none }) rfl (by kernel_rfl) (fun K hK => ?_)
    go_simp
    go_at_call 110
    refine (HCB.out _ HB4.out).mono ?_
    rintro e w5 ⟨gb, rfl, hg5, hb5, ht5⟩
    have HB5 := Lib.hid (bt HB4.out (Nat.le_refl _) hb5)
    have HTA : Hid (Tab w5 ga sa) := Lib.hid (Blk.below HT4.out hb5 (Blk.lt HT4.out))
    have HTB := Lib.hid ht5
    refine hK.out _ _ (fun _ => HC.out _ HB5.out) ?_
    clear hK K hb5 ht5 HT4
    (try simp only [Act.put, List.setIfInBounds_toArray, List.set_cons_zero, List.set_cons_succ])
    have hHeld := HC.out _ HB5.out
    refine wpAnyT_take (i := 6) (oi := { dst := some 12, op := Op.assign (Operand.tmp 28), type := 143, pos := "cone.go:65", after := #[{ on := 2, ground := Ground.data }, { on := 5, ground := Ground.chain }, { on := 0, ground := Ground.phase }, { on := 1, ground := Ground.phase }, { on := 2, ground := Ground.phase }, { on := 3, ground := Ground.textOnly Departure.lateStores }, { on := 4, ground := Ground.textOnly Departure.lateStores }, { on := 5, ground := Ground.textOnly Departure.lateStoresUnsure }], guard := none }) (v := ?v6r5q3) rfl (by kernel_rfl) (fun _ _ _ h => h) (by rfl) hHeld ?h6r5q3 ?_
    case h6r5q3 => (intro w' hSw; (try dsimp only at hSw); go_simp; try with_reducible rfl)
    (try simp only [Act.put, List.setIfInBounds_toArray, List.set_cons_zero, List.set_cons_succ])
    refine wpAnyT_take (i := 7) (oi := { dst := some 13, op := Op.assign (Operand.tmp 31), type := 143, pos := "cone.go:65", after := #[{ on := 5, ground := Ground.data }, { on := 6, ground := Ground.chain }, { on := 0, ground := Ground.phase }, { on := 1, ground := Ground.phase }, { on := 2, ground := Ground.phase }, { on := 3, ground := Ground.phase }, { on := 4, ground := Ground.phase }, { on := 5, ground := Ground.phase }, { on := 6, ground := Ground.phase }], guard := none }) (v := ?v7r5q3) rfl (by kernel_rfl) (fun _ _ _ h => h) (by rfl) hHeld ?h7r5q3 ?_
    case h7r5q3 => (intro w' hSw; (try dsimp only at hSw); go_simp; try with_reducible rfl)
    (try simp only [Act.put, List.setIfInBounds_toArray, List.set_cons_zero, List.set_cons_succ])
    clear hHeld
    refine wpAnyT_done (by kernel_rfl) ?_
    have x2 := (HC.out _ HB5.out).2.2.1
    go_wp2
    go_loopg [10, 11, 35] nL (fun j vb vs iv wx => ∃ q : Nat, q ≤ nL ∧ j = nL - q ∧ iv = .int .i64 q ∧ vb = .int .i64 (bothF sa sb (C.latches.take q) : Int) ∧ vs = .int .i64 (someF sa sb (C.latches.take q) : Int) ∧ Below w5.heap.size w5 wx)
    case atStart => exact ⟨0, Nat.zero_le _, rfl, rfl, rfl, rfl, Below.refl _ _⟩
    case round =>
      obtain ⟨q, hq, hgk, rfl, rfl, rfl, hbl⟩ := hrel
      subst hgk
      have HBL := Lib.hid hbl
      have HBW := Lib.hid (bt HB5.out (Nat.le_refl _) hbl)
      clear hbl x2
      by_cases hlt : q < nL
      · obtain ⟨z, hzz⟩ : ∃ z, C.latches[q]? = some z := ⟨_, List.getElem?_eq_getElem (by rw [HNL.out]; exact hlt)⟩
        obtain ⟨bb, off, e, hb, hcell⟩ := HLR.out q z hzz
        subst e
        obtain ⟨z0, z1, z2⟩ := z
        have h0 := (HBW.out.cell (p := ⟨bb, off + (q * 3 + 0), none⟩) hb).trans (hcell 0 _ rfl)
        have h1 := (HBW.out.cell (p := ⟨bb, off + (q * 3 + 1), none⟩) hb).trans (hcell 1 _ rfl)
        have h2 := (HBW.out.cell (p := ⟨bb, off + (q * 3 + 2), none⟩) hb).trans (hcell 2 _ rfl)
        simp only [Nat.add_zero, ← Nat.add_assoc] at h0 h1 h2
        have hfz := fitL_of HRT.out (z0, z1, z2) (List.mem_of_getElem? hzz)
        simp only at hfz
        have hm0 := HRT.out.m0
        have HM1 := HRT.out.m1
        have hnxx := HNX.out
        have hq0 : 0 ≤ z0 / 2 := by omega
        have hq1 : z0 / 2 < (nx : Int) := by omega
        have hqt := tdiv_nn (b := 2) hfz.1
        have hq3 : IntKind.i64.wrap (z0 / 2) = z0 / 2 := i64_small (by omega) (by omega)
        obtain ⟨xa, hxa⟩ : ∃ x, sa[(z0 / 2).toNat]? = some x := ⟨_, List.getElem?_eq_getElem (by rw [HLA.out]; omega)⟩
        obtain ⟨xb, hxb⟩ : ∃ x, sb[(z0 / 2).toNat]? = some x := ⟨_, List.getElem?_eq_getElem (by rw [HLB.out]; omega)⟩
        have hga : sa.getD (vOf z0) false = xa := by unfold vOf; rw [List.getD_eq_getElem?_getD, hxa]; rfl
        have hgb : sb.getD (vOf z0) false = xb := by unfold vOf; rw [List.getD_eq_getElem?_getD, hxb]; rfl
        have HBS : Hid (bothF sa sb (C.latches.take (q + 1)) = bothF sa sb (C.latches.take q) + (if (xa && xb) = true then 1 else 0)) := Lib.hid (by rw [take_more hzz, bothF_snoc, hga, hgb])
        have HSS : Hid (someF sa sb (C.latches.take (q + 1)) = someF sa sb (C.latches.take q) + (if (xa || xb) = true then 1 else 0)) := Lib.hid (by rw [take_more hzz, someF_snoc, hga, hgb])
        have hbl1 := Nat.le_trans (bothF_le sa sb (C.latches.take q)) (List.length_take_le _ _)
        have hbl2 := Nat.le_trans (someF_le sa sb (C.latches.take q)) (List.length_take_le _ _)
        have hBW2 : Below w5.heap.size w5 (wr.alloc (.cells #[.int .i64 z0, .int .i64 z1, .int .i64 z2] 114)) := HBL.out.alloc HBL.out.size _
        have HBW2 := Lib.hid hBW2
        have hca := (hBW2.drew.cell (p := ⟨ga, (z0 / 2).toNat, none⟩) (Blk.lt HTA.out)).trans (HTA.out.cell hxa)
        have hcb := (hBW2.drew.cell (p := ⟨gb, (z0 / 2).toNat, none⟩) (Blk.lt HTB.out)).trans (HTB.out.cell hxb)
        have hz1 : Blk (wr.alloc (.cells #[.int .i64 z0, .int .i64 z1, .int .i64 z2] 114)).drew wr.heap.size 114 #[.int .i64 z0, .int .i64 z1, .int .i64 z2] := Blk.new wr _ _
        have hzc := hz1.cell 0
        simp only [List.getElem?_toArray, List.getElem?_cons_zero] at hzc
        have hk0 : (0 : Int) ≤ (q : Int) := by omega
        have hk1 : (q : Int) < (nL : Int) := by omega
        have HK := Lib.hid (And.intro hca (And.intro hcb hzc))
        obtain ⟨pb, hpb⟩ : ∃ pb, bothF sa sb (C.latches.take q) = pb := ⟨_, rfl⟩
        obtain ⟨pe, hpe⟩ : ∃ pe, someF sa sb (C.latches.take q) = pe := ⟨_, rfl⟩
        rw [hpb] at HBS hbl1 ⊢
        rw [hpe] at HSS hbl2 ⊢
        have hwb : IntKind.i64.wrap ((pb : Int) + 1) = (pb : Int) + 1 := i64_small (by omega) (by omega)
        have hwe : IntKind.i64.wrap ((pe : Int) + 1) = (pe : Int) + 1 := i64_small (by omega) (by omega)
        clear hcell hzz hxa hxb hga hgb hBW2 hca hcb hzc hz1 hpb hpe hfz
        go_upto_region 9 with (fail)
        refine wp_region_T (by kernel_rfl) (fun w' => w'.cell? ⟨ga, (z0 / 2).toNat, none⟩ = some (.bool xa) ∧ w'.cell? ⟨gb, (z0 / 2).toNat, none⟩ = some (.bool xb) ∧ w'.cell? ⟨wr.heap.size, 0, none⟩ = some (.int .i64 z0)) 14 ?_
        have hHeld := HK.out
        refine wpAnyT_take (i := 0) (oi := { dst := some 39, op := Op.move (Operand.tmp 12), type := 143, pos := "cone.go:67", after := #[], guard := none }) (v := ?v0r9q4) rfl (by kernel_rfl) (fun _ _ _ h => h) (by rfl) hHeld ?h0r9q4 ?_
        case h0r9q4 => (intro w' hSw; (try dsimp only at hSw); go_simp; try with_reducible rfl)
        (try simp only [Act.put, List.setIfInBounds_toArray, List.set_cons_zero, List.set_cons_succ])
        refine wpAnyT_take (i := 1) (oi := { dst := some 40, op := Op.fieldAddr 114 (Operand.tmp 15) 0, type := 0, pos := "cone.go:67", after := #[], guard := none }) (v := ?v1r9q4) rfl (by kernel_rfl) (fun _ _ _ h => h) (by rfl) hHeld ?h1r9q4 ?_
        case h1r9q4 => (intro w' hSw; (try dsimp only at hSw); go_simp; try with_reducible rfl)
        (try simp only [Act.put, List.setIfInBounds_toArray, List.set_cons_zero, List.set_cons_succ])
        refine wpAnyT_take (i := 2) (oi := { dst := some 41, op := Op.load 3 (Operand.tmp 40), type := 3, pos := "cone.go:67", after := #[{ on := 1, ground := Ground.data }], guard := none }) (v := ?v2r9q4) rfl (by kernel_rfl) (fun _ _ _ h => h) (by rfl) hHeld ?h2r9q4 ?_
        case h2r9q4 => (intro w' hSw; (try dsimp only at hSw); go_simp; try with_reducible rfl)
        (try simp only [Act.put, List.setIfInBounds_toArray, List.set_cons_zero, List.set_cons_succ])
        refine wpAnyT_take (i := 3) (oi := { dst := some 42, op := Op.binOp BinOp.quo 3 (Operand.tmp 41) (Operand.const (Value.int IntKind.i64 2)) 3, type := 3, pos := "cone.go:67", after := #[{ on := 2, ground := Ground.data }], guard := none }) (v := ?v3r9q4) rfl (by kernel_rfl) (fun _ _ _ h => h) (by rfl) hHeld ?h3r9q4 ?_
        case h3r9q4 => (intro w' hSw; (try dsimp only at hSw); go_simp; try with_reducible rfl)
        (try simp only [Act.put, List.setIfInBounds_toArray, List.set_cons_zero, List.set_cons_succ])
        refine wpAnyT_take (i := 4) (oi := { dst := some 43, op := Op.indexAddr 143 (Operand.tmp 39) (Operand.tmp 42), type := 0, pos := "cone.go:67", after := #[{ on := 0, ground := Ground.data }, { on := 3, ground := Ground.data }], guard := none }) (v := ?v4r9q4) rfl (by kernel_rfl) (fun _ _ _ h => h) (by rfl) hHeld ?h4r9q4 ?_
        case h4r9q4 => (intro w' hSw; (try dsimp only at hSw); go_simp; try with_reducible rfl)
        (try simp only [Act.put, List.setIfInBounds_toArray, List.set_cons_zero, List.set_cons_succ])
        refine wpAnyT_take (i := 5) (oi := { dst := some 44, op := Op.load 4 (Operand.tmp 43), type := 4, pos := "cone.go:67", after := #[{ on := 4, ground := Ground.data }], guard := none }) (v := ?v5r9q4) rfl (by kernel_rfl) (fun _ _ _ h => h) (by rfl) hHeld ?h5r9q4 ?_
        case h5r9q4 => (intro w' hSw; (try dsimp only at hSw); go_simp; try with_reducible rfl)
        (try simp only [Act.put, List.setIfInBounds_toArray, List.set_cons_zero, List.set_cons_succ])
        refine wpAnyT_take (i := 6) (oi := { dst := some 45, op := Op.move (Operand.tmp 13), type := 143, pos := "cone.go:67", after := #[{ on := 12, ground := Ground.gcOnly Departure.lateStores }], guard := none }) (v := ?v6r9q4) rfl (by kernel_rfl) (fun _ _ _ h => h) (by rfl) hHeld ?h6r9q4 ?_
        case h6r9q4 => (intro w' hSw; (try dsimp only at hSw); go_simp; try with_reducible rfl)
        (try simp only [Act.put, List.setIfInBounds_toArray, List.set_cons_zero, List.set_cons_succ])
        refine wpAnyT_take (i := 7) (oi := { dst := some 46, op := Op.fieldAddr 114 (Operand.tmp 15) 0, type := 0, pos := "cone.go:67", after := #[{ on := 12, ground := Ground.gcOnly Departure.lateStores }], guard := none }) (v := ?v7r9q4) rfl (by kernel_rfl) (fun _ _ _ h => h) (by rfl) hHeld ?h7r9q4 ?_
        case h7r9q4 => (intro w' hSw; (try dsimp only at hSw); go_simp; try with_reducible rfl)
        (try simp only [Act.put, List.setIfInBounds_toArray, List.set_cons_zero, List.set_cons_succ])
        refine wpAnyT_take (i := 8) (oi := { dst := some 47, op := Op.load 3 (Operand.tmp 46), type := 3, pos := "cone.go:67", after := #[{ on := 7, ground := Ground.data }, { on := 12, ground := Ground.gcOnly Departure.lateStores }], guard := none }) (v := ?v8r9q4) rfl (by kernel_rfl) (fun _ _ _ h => h) (by rfl) hHeld ?h8r9q4 ?_
        case h8r9q4 => (intro w' hSw; (try dsimp only at hSw); go_simp; try with_reducible rfl)
        (try simp only [Act.put, List.setIfInBounds_toArray, List.set_cons_zero, List.set_cons_succ])
        refine wpAnyT_take (i := 9) (oi := { dst := some 48, op := Op.binOp BinOp.quo 3 (Operand.tmp 47) (Operand.const (Value.int IntKind.i64 2)) 3, type := 3, pos := "cone.go:67", after := #[{ on := 8, ground := Ground.data }, { on := 12, ground := Ground.gcOnly Departure.lateStores }], guard := none }) (v := ?v9r9q4) rfl (by kernel_rfl) (fun _ _ _ h => h) (by rfl) hHeld ?h9r9q4 ?_
        case h9r9q4 => (intro w' hSw; (try dsimp only at hSw); go_simp; try with_reducible rfl)
        (try simp only [Act.put, List.setIfInBounds_toArray, List.set_cons_zero, List.set_cons_succ])
        refine wpAnyT_take (i := 10) (oi := { dst := some 49, op := Op.indexAddr 143 (Operand.tmp 45) (Operand.tmp 48), type := 0, pos := "cone.go:67", after := #[{ on := 6, ground := Ground.data }, { on := 9, ground := Ground.data }, { on := 12, ground := Ground.gcOnly Departure.lateStores }], guard := none }) (v := ?v10r9q4) rfl (by kernel_rfl) (fun _ _ _ h => h) (by rfl) hHeld ?h10r9q4 ?_
        case h10r9q4 => (intro w' hSw; (try dsimp only at hSw); go_simp; try with_reducible rfl)
        (try simp only [Act.put, List.setIfInBounds_toArray, List.set_cons_zero, List.set_cons_succ])
        refine wpAnyT_take (i := 11) (oi := { dst := some 50, op := Op.load 4 (Operand.tmp 49), type := 4, pos := "cone.go:67", after := #[{ on := 10, ground := Ground.data }, { on := 12, ground := Ground.gcOnly Departure.lateStores }], guard := none }) (v := ?v11r9q4) rfl (by kernel_rfl) (fun _ _ _ h => h) (by rfl) hHeld ?h11r9q4 ?_
        case h11r9q4 => (intro w' hSw; (try dsimp only at hSw); go_simp; try with_reducible rfl)
        (try simp only [Act.put, List.setIfInBounds_toArray, List.set_cons_zero, List.set_cons_succ])
        refine wpAnyT_take (i := 12) (oi := { dst := some 16, op := Op.assign (Operand.tmp 44), type := 4, pos := "cone.go:67", after := #[{ on := 5, ground := Ground.data }, { on := 0, ground := Ground.phase }, { on := 1, ground := Ground.phase }, { on := 2, ground := Ground.phase }, { on := 3, ground := Ground.phase }, { on := 4, ground := Ground.phase }, { on := 5, ground := Ground.phase }, { on := 6, ground := Ground.textOnly Departure.lateStores }, { on := 7, ground := Ground.textOnly Departure.lateStores }, { on := 8, ground := Ground.textOnly Departure.lateStores }, { on := 9, ground := Ground.textOnly Departure.lateStores }, { on := 10, ground := Ground.textOnly Departure.lateStores }, { on := 11, ground := Ground.textOnly Departure.lateStores }], guard := none }) (v := ?v12r9q4) rfl (by kernel_rfl) (fun _ _ _ h => h) (by rfl) hHeld ?h12r9q4 ?_
        case h12r9q4 => (intro w' hSw; (try dsimp only at hSw); go_simp; try with_reducible rfl)
        (try simp only [Act.put, List.setIfInBounds_toArray, List.set_cons_zero, List.set_cons_succ])
        refine wpAnyT_take (i := 13) (oi := { dst := some 17, op := Op.assign (Operand.tmp 50), type := 4, pos := "cone.go:67", after := #[{ on := 11, ground := Ground.data }, { on := 12, ground := Ground.chain }, { on := 0, ground := Ground.phase }, { on := 1, ground := Ground.phase }, { on := 2, ground := Ground.phase }, { on := 3, ground := Ground.phase }, { on := 4, ground := Ground.phase }, { on := 5, ground := Ground.phase }, { on := 6, ground := Ground.phase }, { on := 7, ground := Ground.phase }, { on := 8, ground := Ground.phase }, { on := 9, ground := Ground.phase }, { on := 10, ground := Ground.phase }, { on := 11, ground := Ground.phase }, { on := 12, ground := Ground.phase }], guard := none }) (v := ?v13r9q4) rfl (by kernel_rfl) (fun _ _ _ h => h) (by rfl) hHeld ?h13r9q4 ?_
        case h13r9q4 => (intro w' hSw; (try dsimp only at hSw); go_simp; try with_reducible rfl)
        (try simp only [Act.put, List.setIfInBounds_toArray, List.set_cons_zero, List.set_cons_succ])
        clear hHeld
        refine wpAnyT_done (by kernel_rfl) ?_
        cases xa <;> cases xb
        all_goals
          go_wp2
          go_roundg (nL - (q + 1))
          case measure => omega
          case rel => exact ⟨q + 1, by omega, rfl, by go_num, by rw [HBS.out]; simp, by rw [HSS.out]; simp, HBW2.out.drew⟩
      · have hqe : nL = q := by omega
        subst hqe
        have HT1 : Hid (C.latches.take nL = C.latches) := Lib.hid (List.take_of_length_le (by rw [HNL.out]; exact Nat.le_refl _))
        rw [HT1.out]
        go_wp2
        go_ret3
        exact ⟨bt HB2.out (Nat.le_refl _) HBW.out, rfl⟩
  · have HAE : Hid (alikeR C a b = (0, 0, propsE C [(98, a), (98, b)])) := Lib.hid (by rw [HAR.out, if_neg h0])
    rw [HAE.out]
    clear HAR HAE
    generalize propsE C [(98, a), (98, b)] = r at *
    have hq : (r != 0) = true := by simpa using h0
    clear h0
    go_enter Try.func48, Try.ntmps48
    go_upto_region 1 with (fail)
    rw [HW2.out]
    have HH := Lib.hid (HXH.out W2 HBF.out)
    go_wp2_with (first
      | (refine wpList_load_row rfl 51 (.tmp 3) rfl w.heap.size rfl 51 (V.cells C.max) (0, 0) _ HH.out.1 Try.underlying51 rfl (by kernel_rfl) ?_)
      | (refine wpList_load_row rfl 81 (.tmp 4) rfl (w.heap.size + 1) rfl 81 #[.int .u8 98, .int .i64 a] (0, 0) _ HH.out.2.1 Try.underlying81 rfl (by kernel_rfl) ?_)
      | (refine wpList_load_row rfl 81 (.tmp 5) rfl (w.heap.size + 1 + 1) rfl 81 #[.int .u8 98, .int .i64 b] (0, 0) _ HH.out.2.2 Try.underlying81 rfl (by kernel_rfl) ?_)
      | (go_at_call 108; refine HCP.out.mono ?_; rintro e w3 ⟨rfl, hb3⟩; have HB3 := Lib.hid (bt HBA.out (Nat.le_refl _) hb3); clear hb3))
    go_ret3
    exact ⟨bt HB2.out (Nat.le_refl _) HB3.out, rfl⟩
end Go.Proofs.Ytahjmkdpnkffhaa

/- The contract of Renumber. -/
import Derived.Test.YtdladffjenfikaaRenE
import Derived.Test.YtdladffjenfikaaRight
import Derived.Deep.DeepCutAuto
import Derived.Deep.RegionHeld3
namespace Go.Proofs.Ytdladffjenfikaa
open Go.RowKit

def noV : CV := ⟨.slice none 0 0, .slice none 0 0, .slice none 0 0, .slice none 0 0, .slice none 0 0, .slice none 0 0, .slice none 0 0, .slice none 0 0, .slice none 0 0, .slice none 0 0⟩
set_option maxHeartbeats 2000000 in
set_option maxRecDepth 100000 in
theorem Renumber_no (w : World) (V : CV) (C : Circ) (h : C.In w V) (ok : C.Ok) (hz : (checkR C).2 ≠ 0) :
    Calls Try.prog 31 #[V.val C.max] w fun e w' => Below w.heap.size w w' ∧ e = .returned (.tuple #[.agg #[.int .i64 0, .slice none 0 0, .slice none 0 0, .slice none 0 0, .slice none 0 0, .slice none 0 0, .slice none 0 0, .slice none 0 0, .slice none 0 0, .slice none 0 0, .slice none 0 0], .slice none 0 0, .int .i64 (checkR C).2]) := by
  obtain ⟨m, hmm⟩ : ∃ m, C.max = m := ⟨_, rfl⟩
  obtain ⟨Vi, Vl, Vo, Vb, Vc, Vj, Vf, Va, Vs, Vt⟩ := V
  obtain ⟨W0, hW0⟩ : ∃ W0, W0 = (w.alloc (.cells #[.int .i64 m, Vi, Vl, Vo, Vb, Vc, Vj, Vf, Va, Vs, Vt] 29)).alloc (.cells #[.int .i64 0, .slice none 0 0, .slice none 0 0, .slice none 0 0, .slice none 0 0, .slice none 0 0, .slice none 0 0, .slice none 0 0, .slice none 0 0, .slice none 0 0, .slice none 0 0] 29) := ⟨_, rfl⟩
  have HB0 : Hid (Below w.heap.size w W0) := Lib.hid (by rw [hW0]; exact ((Below.refl w.heap.size w).alloc (Nat.le_refl _) _).alloc (by simp) _)
  have h1 : Blk W0 (w.heap.size + 1) 29 #[.int .i64 0, .slice none 0 0, .slice none 0 0, .slice none 0 0, .slice none 0 0, .slice none 0 0, .slice none 0 0, .slice none 0 0, .slice none 0 0, .slice none 0 0, .slice none 0 0] := by
    rw [hW0]
    have := Blk.new (w.alloc (.cells #[.int .i64 m, Vi, Vl, Vo, Vb, Vc, Vj, Vf, Va, Vs, Vt] 29)) 29 #[.int .i64 0, .slice none 0 0, .slice none 0 0, .slice none 0 0, .slice none 0 0, .slice none 0 0, .slice none 0 0, .slice none 0 0, .slice none 0 0, .slice none 0 0, .slice none 0 0]
    simpa using this
  have hord := Order_any W0 _ C (h.below HB0.out) ok
  obtain ⟨r, hr⟩ : ∃ r, (checkR C).2 = r := ⟨_, rfl⟩
  rw [hr, hmm] at hord
  rw [hr] at hz ⊢
  rw [hmm]
  have hq : (r != 0) = true := by simpa using hz
  have HZ := Lib.hid hz
  have HORD := Lib.hid hord
  have H1 := Lib.hid h1
  have HW0 := Lib.hid hW0
  clear h ok hz hr hmm h1 hord hW0
  rw [HW0.out] at HORD
  go_enter Try.func31, Try.ntmps31
  go_upto_region 3 with (go_at_call 34; go_loud (refine HORD.out.mono ?_; rw [← HW0.out]; rintro e w1 ⟨hb1, vg, out, rfl, _, _⟩; have HB1 := Lib.hid hb1; have hbz := H1.out.below hb1 H1.out.lt; have HBZ := Lib.hid hbz; clear hb1 hbz))
  obtain ⟨z0, z1, z2, z3, z4, z5, z6, z7, z8, z9, z10⟩ := box_of HBZ.out
  obtain ⟨y0, y1, y2, y3, y4, y5, y6, y7, y8, y9, y10⟩ := blk_frozen11 HBZ.out
  have hR9 : Blk (set11 w1 (w.heap.size + 1) (.int .i64 0) (.slice none 0 0) (.slice none 0 0) (.slice none 0 0) (.slice none 0 0) (.slice none 0 0) (.slice none 0 0) (.slice none 0 0) (.slice none 0 0) (.slice none 0 0) (.slice none 0 0)) (w.heap.size + 1) 29 #[.int .i64 0, .slice none 0 0, .slice none 0 0, .slice none 0 0, .slice none 0 0, .slice none 0 0, .slice none 0 0, .slice none 0 0, .slice none 0 0, .slice none 0 0, .slice none 0 0] := set11_blk HBZ.out (.int .i64 0) (.slice none 0 0) (.slice none 0 0) (.slice none 0 0) (.slice none 0 0) (.slice none 0 0) (.slice none 0 0) (.slice none 0 0) (.slice none 0 0) (.slice none 0 0) (.slice none 0 0)
  have hB9 : Below w.heap.size w (set11 w1 (w.heap.size + 1) (.int .i64 0) (.slice none 0 0) (.slice none 0 0) (.slice none 0 0) (.slice none 0 0) (.slice none 0 0) (.slice none 0 0) (.slice none 0 0) (.slice none 0 0) (.slice none 0 0) (.slice none 0 0)) := set11_below (bt HB0.out (Nat.le_refl _) HB1.out) (Nat.le_succ _) (.int .i64 0) (.slice none 0 0) (.slice none 0 0) (.slice none 0 0) (.slice none 0 0) (.slice none 0 0) (.slice none 0 0) (.slice none 0 0) (.slice none 0 0) (.slice none 0 0) (.slice none 0 0)
  obtain ⟨wq, hwq⟩ : ∃ wq, wq = (set11 w1 (w.heap.size + 1) (.int .i64 0) (.slice none 0 0) (.slice none 0 0) (.slice none 0 0) (.slice none 0 0) (.slice none 0 0) (.slice none 0 0) (.slice none 0 0) (.slice none 0 0) (.slice none 0 0) (.slice none 0 0)) := ⟨_, rfl⟩
  rw [← hwq] at hR9 hB9
  unfold set11 at hwq
  have HR9 := Lib.hid hR9
  have HB9 := Lib.hid hB9
  have HWQ := Lib.hid hwq
  clear hR9 hB9 hwq
  go_wp2
  rw [← HWQ.out]
  refine bodyPost_ret (results_cell_two (fn := Try.f31) (p := 2) (q := 3) (r := 4) rfl _ wq (w.heap.size + 1) 29 #[.int .i64 0, .slice none 0 0, .slice none 0 0, .slice none 0 0, .slice none 0 0, .slice none 0 0, .slice none 0 0, .slice none 0 0, .slice none 0 0, .slice none 0 0, .slice none 0 0] (0, 0) _ rfl HR9.out Try.underlying29 rfl (by kernel_rfl) _ _ rfl rfl) rfl ?_
  exact ⟨HB9.out, rfl⟩
end Go.Proofs.Ytdladffjenfikaa

namespace Go.Proofs.Ytdladffjenfikaa
open Go.RowKit

set_option maxHeartbeats 4000000 in
set_option maxRecDepth 100000 in
theorem Renumber_ok2 (w : World) (V : CV) (C : Circ) (h : C.In w V) (ok : C.Ok) (rm : C.Room) (hz : (checkR C).2 = 0) :
    Calls Try.prog 31 #[V.val C.max] w fun e w' => Below w.heap.size w w' ∧ ∃ V' us vm out B', e = .returned (.tuple #[CV.val V' (renC C out).max, vm, .int .i64 0]) ∧ Greedy (usesC C) out ∧ out.length = C.ands.length ∧
      (w.heap.size ≤ B' ∧ Cop w' B' V' us (renC C out) ∧ ∀ g, vm.ownBlock = some g → g < B') ∧ w'.ownsRow w.heap.size 3 1 vm (newM C out).length ((newM C out).map (Value.int .i64)) := by
  have HRT := Lib.hid (right_of hz)
  have HRM := Lib.hid rm
  obtain ⟨AI, cI, eI, _, _, _⟩ := h.i
  obtain ⟨AL, cL, eL, _, _, _⟩ := h.l
  obtain ⟨AA, cA, eA, _, _, _⟩ := h.a
  obtain ⟨Vi, Vl, Vo, Vb, Vc, Vj, Vf, Va, Vs, Vt⟩ := V
  simp only at eI eL eA
  subst eI eL eA
  obtain ⟨m, hmm⟩ : ∃ m, C.max = m := ⟨_, rfl⟩
  have HMM := Lib.hid hmm
  obtain ⟨nI, hnI⟩ : ∃ n, C.inputs.length = n := ⟨_, rfl⟩
  obtain ⟨nL, hnL⟩ : ∃ n, C.latches.length = n := ⟨_, rfl⟩
  obtain ⟨nA, hnA⟩ : ∃ n, C.ands.length = n := ⟨_, rfl⟩
  have HN := Lib.hid (And.intro hnI (And.intro hnL hnA))
  have hni : nI ≤ 16384 := by rw [← hnI]; exact HRT.out.ni
  have hnl : nL ≤ 16384 := by rw [← hnL]; exact HRT.out.nl
  have hna : nA ≤ 16384 := by rw [← hnA]; exact HRT.out.na
  rw [hmm]
  rw [hnI, hnL, hnA] at h ⊢
  obtain ⟨W0, hW0⟩ : ∃ W0, W0 = (w.alloc (.cells #[.int .i64 m, .slice AI nI cI, .slice AL nL cL, Vo, Vb, Vc, Vj, Vf, .slice AA nA cA, Vs, Vt] 29)).alloc (.cells #[.int .i64 0, .slice none 0 0, .slice none 0 0, .slice none 0 0, .slice none 0 0, .slice none 0 0, .slice none 0 0, .slice none 0 0, .slice none 0 0, .slice none 0 0, .slice none 0 0] 29) := ⟨_, rfl⟩
  have HBX : Hid (∀ wz, Below W0.heap.size W0 wz → Blk wz w.heap.size 29 #[.int .i64 m, .slice AI nI cI, .slice AL nL cL, Vo, Vb, Vc, Vj, Vf, .slice AA nA cA, Vs, Vt]) := Lib.hid (fun wz hb => by
    have : Blk W0 w.heap.size 29 #[.int .i64 m, .slice AI nI cI, .slice AL nL cL, Vo, Vb, Vc, Vj, Vf, .slice AA nA cA, Vs, Vt] := by rw [hW0]; exact (Blk.new w _ _).alloc _
    exact this.below hb this.lt)
  have HB0 : Hid (Below w.heap.size w W0) := Lib.hid (by rw [hW0]; exact ((Below.refl w.heap.size w).alloc (Nat.le_refl _) _).alloc (by simp) _)
  have HS0 : Hid (W0.heap.size = w.heap.size + 1 + 1) := Lib.hid (by rw [hW0]; simp)
  have HIN : Hid (∀ wz, Below W0.heap.size W0 wz → C.In wz ⟨.slice AI nI cI, .slice AL nL cL, Vo, Vb, Vc, Vj, Vf, .slice AA nA cA, Vs, Vt⟩) := Lib.hid (fun wz hb => (h.below HB0.out).below hb)
  have hord := Order_any W0 _ C (h.below HB0.out) ok
  rw [hz, hmm] at hord
  have HORD := Lib.hid hord
  have HW0 := Lib.hid hW0
  have HIM := Lib.hid ok.max
  have HSZ3 : ∀ (gm : Nat) (w2 w3 : World), Below W0.heap.size W0 w2 → Below (w2.alloc (.cells #[.slice (some ⟨gm, 0, none⟩) (m.toNat + 1) (m.toNat + 1)] 22)).heap.size (w2.alloc (.cells #[.slice (some ⟨gm, 0, none⟩) (m.toNat + 1) (m.toNat + 1)] 22)) w3 → W0.heap.size ≤ w3.heap.size := fun gm w2 w3 h1 h2 => by have := h1.size; have := h2.size; simp at this; omega
  clear h ok rm hz hord hmm hnI hnL hnA hW0
  rw [HW0.out] at HORD
  go_enter Try.func31, Try.ntmps31
  go_upto_region 8 with (first
    | (go_at_call 34; refine HORD.out.mono ?_; rw [← HW0.out]; rintro e w1 ⟨hb1, vg, out, rfl, _, hok⟩; obtain ⟨ho1, hg1, hl1⟩ := hok rfl; have HB1 := Lib.hid hb1; have HO1 := Lib.hid ho1; have HG1 := Lib.hid hg1; have HL1 := Lib.hid hl1; obtain ⟨c0, c1, c2, c3, c4, c5, c6, c7, c8, c9, c10⟩ := box_of (HBX.out w1 hb1); clear hb1 ho1 hg1 hl1 hok)
    | (go_at_call 56; have hnw := newLiterals_any w1 _ C vg out (HIN.out w1 HB1.out) (own_rowe lenI (by rw [flat_ints]; exact HO1.out)) HRT.out.m0 HRT.out.m1 (fun l hl => by have := HRT.out.i l hl; omega) (fun z hz => by have := (HRT.out.l z hz).1; omega) (fun z hz => by have := (HRT.out.a z hz).1; omega) (fun g hg => by have := HG1.out.inR g hg; unfold InR at this; rw [usesC_len] at this; exact this) ⟨HRT.out.ni, HRT.out.nl, by rw [HL1.out]; exact HRT.out.na⟩; rw [HMM.out] at hnw; refine hnw.mono ?_; rintro e w2 ⟨gm, rfl, hgm, hb2, hn2⟩; have HB2 := Lib.hid (bt HB1.out (Nat.le_refl _) hb2); have HB12 := Lib.hid hb2; have HN2 := Lib.hid hn2; have HGM := Lib.hid hgm; obtain ⟨c0, c1, c2, c3, c4, c5, c6, c7, c8, c9, c10⟩ := box_of (HBX.out _ (HB2.out.alloc HB2.out.size (.cells #[.slice (some ⟨gm, 0, none⟩) (m.toNat + 1) (m.toNat + 1)] 22))); clear hnw hgm hb2 hn2))
  have hcp := Copy_any (w2.alloc (.cells #[.slice (some ⟨gm, 0, none⟩) (m.toNat + 1) (m.toNat + 1)] 22)) _ C (HIN.out _ (HB2.out.alloc HB2.out.size _)) HIM.out HRM.out
  rw [HMM.out] at hcp
  refine hcp.mono ?_
  rintro e w3 ⟨V', us, rfl, hb3, hcop⟩
  have HB3 := Lib.hid hb3
  obtain ⟨Wi, Wl, Wo, Wb, Wc, Wj, Wf, Wa, Ws, Wt⟩ := V'
  obtain ⟨Bi, di, hWi⟩ := own_slice (hcop.fam.own (Wi, C.inputs) (by simp))
  obtain ⟨Bo, do_, hWo⟩ := own_slice (hcop.fam.own (Wo, C.outputs) (by simp))
  obtain ⟨Bb, db, hWb⟩ := own_slice (hcop.fam.own (Wb, C.bads) (by simp))
  obtain ⟨Bc, dc, hWc⟩ := own_slice (hcop.fam.own (Wc, C.constraints) (by simp))
  obtain ⟨Bf, df, hWf⟩ := own_slice (hcop.fam.own (Wf, C.fairness) (by simp))
  obtain ⟨Bl, dl, hWl⟩ := own_slice_k hcop.l
  obtain ⟨Ba, da, hWa⟩ := own_slice_k hcop.a
  obtain ⟨Bs, ds, hWs⟩ := own_slice_k hcop.s
  obtain ⟨Bt, dt, hWt⟩ := own_slice_k hcop.t
  obtain ⟨Bj, dj, hWj⟩ := own_slice_k hcop.j
  simp only at hWi hWo hWb hWc hWf hWl hWa hWs hWt hWj
  subst hWi hWo hWb hWc hWf hWl hWa hWs hWt hWj
  have HCOP := Lib.hid hcop
  obtain ⟨c0, c1, c2, c3, c4, c5, c6, c7, c8, c9, c10⟩ := box_of (HBX.out _ ((bt (HB2.out.alloc HB2.out.size _) (Nat.le_refl _) hb3).alloc (HSZ3 gm w2 w3 HB2.out hb3) (.cells #[.int .i64 m, .slice Bi C.inputs.length di, .slice Bl C.latches.length dl, .slice Bo C.outputs.length do_, .slice Bb C.bads.length db, .slice Bc C.constraints.length dc, .slice Bj us.length dj, .slice Bf C.fairness.length df, .slice Ba C.ands.length da, .slice Bs C.symbols.length ds, .slice Bt C.comments.length dt] 29)))
  clear hcp hb3 hcop
  go_upto_region 8 with (fail)
  clear c0 c1 c2 c3 c4 c5 c6 c7 c8 c9 c10
  obtain ⟨X, hX⟩ : ∃ X, X = w3.alloc (.cells #[.int .i64 ((nI : Int) + nL + nA), .slice Bi C.inputs.length di, .slice Bl C.latches.length dl, .slice Bo C.outputs.length do_, .slice Bb C.bads.length db, .slice Bc C.constraints.length dc, .slice Bj us.length dj, .slice Bf C.fairness.length df, .slice Ba C.ands.length da, .slice Bs C.symbols.length ds, .slice Bt C.comments.length dt] 29) := ⟨_, rfl⟩
  rw [← hX]
  have hX0 : Below W0.heap.size W0 X := by rw [hX]; exact (bt (HB2.out.alloc HB2.out.size _) (Nat.le_refl _) HB3.out).alloc (HSZ3 gm w2 w3 HB2.out HB3.out) _
  have hXB : Blk X w3.heap.size 29 #[.int .i64 ((nI : Int) + nL + nA), .slice Bi C.inputs.length di, .slice Bl C.latches.length dl, .slice Bo C.outputs.length do_, .slice Bb C.bads.length db, .slice Bc C.constraints.length dc, .slice Bj us.length dj, .slice Bf C.fairness.length df, .slice Ba C.ands.length da, .slice Bs C.symbols.length ds, .slice Bt C.comments.length dt] := by rw [hX]; exact Blk.new _ _ _
  have hXM : Blk X w2.heap.size 22 #[.slice (some ⟨gm, 0, none⟩) (m.toNat + 1) (m.toNat + 1)] := by
    rw [hX]
    exact ((Blk.new w2 _ _).below HB3.out (by simp)).alloc _
  have hXN : Nums X gm (newM C out) := by
    rw [hX]
    have := Blk.alloc HN2.out (.cells #[.slice (some ⟨gm, 0, none⟩) (m.toNat + 1) (m.toNat + 1)] 22)
    exact (Blk.below this HB3.out (Blk.lt this)).alloc _
  have hXC : Cop X w2.heap.size ⟨.slice Bi C.inputs.length di, .slice Bl C.latches.length dl, .slice Bo C.outputs.length do_, .slice Bb C.bads.length db, .slice Bc C.constraints.length dc, .slice Bj us.length dj, .slice Bf C.fairness.length df, .slice Ba C.ands.length da, .slice Bs C.symbols.length ds, .slice Bt C.comments.length dt⟩ us C := by
    rw [hX]
    exact (HCOP.out.below ((Below.refl _ _).alloc (Nat.le_refl _) _)).base (by simp)
  have hXS : X.heap.size = w3.heap.size + 1 := by rw [hX]; simp
  have HX2 : Hid (Below w2.heap.size w2 X) := Lib.hid (by rw [hX]; exact ((Below.refl w2.heap.size w2).alloc (Nat.le_refl _) _).trans (((HB3.out.mono (by simp)).trans (((Below.refl w3.heap.size w3).alloc (Nat.le_refl _) _).mono (by have := HB3.out.size; simp at this; omega)))))
  have HXX := Lib.hid (And.intro hX0 (And.intro hXB (And.intro hXM (And.intro hXN (And.intro hXC hXS)))))
  have HUS : Hid (∀ u ∈ us, ∃ A n c, u = .slice A n c) := Lib.hid (fun u hu => by
    obtain ⟨i, hi⟩ := List.getElem?_of_mem hu
    obtain ⟨zs, hzs⟩ : ∃ zs, C.justice[i]? = some zs := ⟨_, List.getElem?_eq_getElem (by rw [← hXC.ul]; exact (List.getElem?_eq_some_iff.1 hi).1)⟩
    obtain ⟨A, c, e⟩ := own_slice (hXC.fam.own (u, zs) (List.mem_append_right _ (List.mem_of_getElem? (by rw [List.getElem?_zip_eq_some]; exact ⟨hi, hzs⟩))))
    exact ⟨A, _, c, e⟩)
  have HCV : Hid (∀ wz, Below X.heap.size X wz → Calls Try.prog 59 #[.slice Bj us.length dj] wz fun e w' => ∃ v', e = .returned v' ∧ w'.ownsRow wz.heap.size 22 1 v' us.length us ∧ Below wz.heap.size wz w') := Lib.hid (fun wz hb => by
    have := CloneV_any wz (.slice Bj us.length dj) us (own_rowe (fun _ => rfl) (by rw [flat_vals]; exact own_below hXC.j hb)) HUS.out (by rw [hXC.ul]; exact HRM.out.j)
    rw [flat_vals] at this
    exact this)
  have HKP : Hid (∀ wz, Below X.heap.size X wz → wz.cell? ⟨w3.heap.size, 1, none⟩ = some (.slice Bi C.inputs.length di) ∧ wz.cell? ⟨w3.heap.size, 3, none⟩ = some (.slice Bo C.outputs.length do_) ∧ wz.cell? ⟨w3.heap.size, 4, none⟩ = some (.slice Bb C.bads.length db) ∧ wz.cell? ⟨w3.heap.size, 5, none⟩ = some (.slice Bc C.constraints.length dc) ∧ wz.cell? ⟨w3.heap.size, 6, none⟩ = some (.slice Bj us.length dj) ∧ wz.cell? ⟨w3.heap.size, 7, none⟩ = some (.slice Bf C.fairness.length df)) := Lib.hid (fun wz hb => by
    obtain ⟨d0, d1, d2, d3, d4, d5, d6, d7, d8, d9, d10⟩ := box_of (hXB.below hb hXB.lt)
    exact ⟨d1, d3, d4, d5, d6, d7⟩)
  have hus : us.length ≤ 16384 := by rw [hXC.ul]; exact HRT.out.nj
  have HBR : Hid (Below X.heap.size X X.drew) := Lib.hid (Below.refl _ _).drew
  have HBA : Hid (Below X.heap.size X (X.drew.alloc (.cells #[.slice Bi C.inputs.length di, .slice Bo C.outputs.length do_, .slice Bb C.bads.length db, .slice Bc C.constraints.length dc, .slice Bf C.fairness.length df] 22))) := Lib.hid ((Below.refl _ _).drew.alloc (Nat.le_refl _) _)
  obtain ⟨e1, e2, e3, e4, e5, e6⟩ := HKP.out X (Below.refl _ _)
  obtain ⟨i0, hi0, hz0, hz1, hz2⟩ := info_of2 infoV2
  have HI0 := Lib.hid (And.intro hi0 (And.intro hz0 (And.intro hz1 hz2)))
  clear hX0 hXB hXM hXN hXC hX HCOP hi0 hz0 hz1 hz2
  go_cut [62, 63, 64] (fun v62 v63 v64 wx => ∃ A6 c6, v62 = .slice A6 (us.length + 5) c6 ∧ v63 = .int .i64 ((us.length : Int) + 5) ∧ v64 = .int .i64 0 ∧ wx.ownsRow X.heap.size 22 1 (.slice A6 (us.length + 5) c6) (us.length + 5) (us ++ [.slice Bi C.inputs.length di, .slice Bo C.outputs.length do_, .slice Bb C.bads.length db, .slice Bc C.constraints.length dc, .slice Bf C.fairness.length df]) ∧ Below X.heap.size X wx)
  case first =>
    go_region_held3 (fun w' => w'.cell? ⟨w3.heap.size, 1, none⟩ = some (.slice Bi C.inputs.length di) ∧ w'.cell? ⟨w3.heap.size, 3, none⟩ = some (.slice Bo C.outputs.length do_) ∧ w'.cell? ⟨w3.heap.size, 4, none⟩ = some (.slice Bb C.bads.length db) ∧ w'.cell? ⟨w3.heap.size, 5, none⟩ = some (.slice Bc C.constraints.length dc) ∧ w'.cell? ⟨w3.heap.size, 6, none⟩ = some (.slice Bj us.length dj) ∧ w'.cell? ⟨w3.heap.size, 7, none⟩ = some (.slice Bf C.fairness.length df)) (first | exact HKP.out _ HB6.out | exact HKP.out _ HB5.out | exact HKP.out _ (HB5.out.alloc HB5.out.size _) | exact HKP.out _ HBR.out | exact HKP.out _ HBA.out | go_keep)
      (first
        | (go_at_call 59; refine (HCV.out _ HBR.out).mono ?_; rintro e w5 ⟨v5, rfl, ho5, hb5⟩; have HO5 := Lib.hid ho5; have HB5 := Lib.hid (bt HBR.out (Nat.le_refl _) hb5); clear ho5 hb5)
        | (go_at_call 59; refine (HCV.out _ HBA.out).mono ?_; rintro e w5 ⟨v5, rfl, ho5, hb5⟩; have HO5 := Lib.hid ho5; have HB5 := Lib.hid (bt HBA.out (Nat.le_refl _) hb5); have HRD := Lib.hid ((reads_five X.drew (.slice Bi C.inputs.length di) (.slice Bo C.outputs.length do_) (.slice Bb C.bads.length db) (.slice Bc C.constraints.length dc) (.slice Bf C.fairness.length df) 22).below (hb5.mono (by simp))); clear ho5 hb5)
        | (refine step_append_any _ rfl (.tmp 50) (.tmp 61) _ rfl X.heap.size 22 i0 _ 1 24 Try.underlying24 HI0.out.1 HI0.out.2.1 HI0.out.2.2.1 HI0.out.2.2.2 rfl (by omega) v5 us.length us (by simp [Act.eval]) ((own_base HO5.out (by simp)).alloc _) (w5.heap.size + 1) (some ⟨w5.heap.size, 0, none⟩) 5 5 [.slice Bi C.inputs.length di, .slice Bo C.outputs.length do_, .slice Bb C.bads.length db, .slice Bc C.constraints.length dc, .slice Bf C.fairness.length df] (by simp [Act.eval]) (reads_five w5 _ _ _ _ _ _) (by simp [Value.oneCell']) (by simp only [maxLen]; omega) (by omega) (by have := HB5.out.size; simp; omega) ?_; intro v6 w6 hown6 hg6 hat6; have HB6 := Lib.hid ((HB5.out.alloc HB5.out.size (.cells #[.slice Bi C.inputs.length di, .slice Bo C.outputs.length do_, .slice Bb C.bads.length db, .slice Bc C.constraints.length dc, .slice Bf C.fairness.length df] 22)).grown hg6 (by have := HB5.out.size; simp; omega) (fun g e => ((own_base HO5.out (B' := X.heap.size) (by simp)).lt g e).1)); obtain ⟨A6, c6, rfl⟩ := own_slice_k hown6; have HO6 := Lib.hid hown6; clear hown6 hg6 hat6)
        | (refine step_append_any _ rfl (.tmp 50) (.tmp 61) _ rfl X.heap.size 22 i0 _ 1 24 Try.underlying24 HI0.out.1 HI0.out.2.1 HI0.out.2.2.1 HI0.out.2.2.2 rfl (by omega) v5 us.length us (by simp [Act.eval]) (own_base HO5.out (by simp)) (X.drew.heap.size + 1) (some ⟨X.drew.heap.size, 0, none⟩) 5 5 [.slice Bi C.inputs.length di, .slice Bo C.outputs.length do_, .slice Bb C.bads.length db, .slice Bc C.constraints.length dc, .slice Bf C.fairness.length df] (by simp [Act.eval]) HRD.out (by simp [Value.oneCell']) (by simp only [maxLen]; omega) (by omega) (by have := HB5.out.size; omega) ?_; intro v6 w6 hown6 hg6 hat6; have HB6 := Lib.hid (HB5.out.grown hg6 HB5.out.size (fun g e => ((own_base HO5.out (B' := X.heap.size) (by simp)).lt g e).1)); obtain ⟨A6, c6, rfl⟩ := own_slice_k hown6; have HO6 := Lib.hid hown6; clear hown6 hg6 hat6))
    all_goals (
      go_wp2_with fail
      go_meet)
    all_goals (exact ⟨A6, c6, rfl, by first | rfl | (push_cast; rfl), rfl, HO6.out, HB6.out⟩)
  case rest =>
    obtain ⟨A6, c6, rfl, rfl, rfl, ho6, hb6⟩ := hcut
    obtain ⟨hX0, hXB, hXM, hXN, hXC, hXS⟩ := HXX.out
    have hgml : gm < w2.heap.size := Blk.lt HN2.out
    have hsz23 : w2.heap.size + 1 ≤ w3.heap.size := by have := HB3.out.size; simp at this; omega
    obtain ⟨M, hM⟩ : ∃ M, newM C out = M := ⟨_, rfl⟩
    have hMl : M.length = m.toNat + 1 := by rw [← hM, newM_len, HMM.out]
    have hMe : ∀ x ∈ M, 0 ≤ x ∧ x % 2 = 0 ∧ x ≤ 1000000 := fun x hx => by
      rw [← hM] at hx
      obtain ⟨a, b, c⟩ := newM_even C out x hx
      have h1 := HRT.out.ni
      have h2 := HRT.out.nl
      have h3 := HRT.out.na
      have h4 := HL1.out
      exact ⟨a, b, by omega⟩
    have hm0 : 0 ≤ m ∧ m ≤ 16384 := by have := HRT.out.m0; have := HRT.out.m1; have := HMM.out; omega
    rw [hM] at hXN
    obtain ⟨R0, hR0⟩ : ∃ R0, R0 = us.zip C.justice ++ five ⟨.slice Bi C.inputs.length di, .slice Bl C.latches.length dl, .slice Bo C.outputs.length do_, .slice Bb C.bads.length db, .slice Bc C.constraints.length dc, .slice Bj us.length dj, .slice Bf C.fairness.length df, .slice Ba C.ands.length da, .slice Bs C.symbols.length ds, .slice Bt C.comments.length dt⟩ C := ⟨_, rfl⟩
    have hLV : us ++ [.slice Bi C.inputs.length di, .slice Bo C.outputs.length do_, .slice Bb C.bads.length db, .slice Bc C.constraints.length dc, .slice Bf C.fairness.length df] = R0.map (·.1) := by
      rw [hR0, List.map_append]
      congr 1
      rw [List.map_fst_zip (by rw [hXC.ul]; exact Nat.le_refl _)]
    have hRlen : R0.length = us.length + 5 := by
      have := congrArg List.length hLV
      simp at this
      omega
    have hLit : ∀ r ∈ R0, ∀ x ∈ r.2, LitOk C x := by
      intro r hr x hx
      rw [hR0] at hr
      rcases List.mem_append.1 hr with hr | hr
      · exact HRT.out.j r.2 (List.of_mem_zip (a := r.1) (b := r.2) hr).2 x hx
      · simp only [List.mem_cons, List.not_mem_nil, or_false] at hr
        rcases hr with rfl | rfl | rfl | rfl | rfl
        · have := HRT.out.i x hx; exact ⟨by omega, this.2⟩
        · exact HRT.out.o x hx
        · exact HRT.out.b x hx
        · exact HRT.out.c x hx
        · exact HRT.out.f x hx
    have hst0 : RnL w2 X wc w3.heap.size #[.int .i64 ((nI : Int) + nL + nA), .slice Bi C.inputs.length di, .slice Bl C.latches.length dl, .slice Bo C.outputs.length do_, .slice Bb C.bads.length db, .slice Bc C.constraints.length dc, .slice Bj us.length dj, .slice Bf C.fairness.length df, .slice Ba C.ands.length da, .slice Bs C.symbols.length ds, .slice Bt C.comments.length dt] gm (m.toNat + 1) M ⟨.slice Bi C.inputs.length di, .slice Bl C.latches.length dl, .slice Bo C.outputs.length do_, .slice Bb C.bads.length db, .slice Bc C.constraints.length dc, .slice Bj us.length dj, .slice Bf C.fairness.length df, .slice Ba C.ands.length da, .slice Bs C.symbols.length ds, .slice Bt C.comments.length dt⟩ us C (.slice A6 (us.length + 5) c6) (us ++ [.slice Bi C.inputs.length di, .slice Bo C.outputs.length do_, .slice Bb C.bads.length db, .slice Bc C.constraints.length dc, .slice Bf C.fairness.length df]) R0 := by
      have hc := hXC.below hb6
      refine ⟨hb6.mono (by omega), by rw [hR0]; exact fam_comm hc.fam, ?_, hXB.below hb6 hXB.lt, hXM.below hb6 hXM.lt, Blk.below hXN hb6 (Blk.lt hXN), hgml, hc.j, hc.l, hc.a, hc.s, hc.t⟩
      have : (us ++ ([.slice Bi C.inputs.length di, .slice Bo C.outputs.length do_, .slice Bb C.bads.length db, .slice Bc C.constraints.length dc, .slice Bf C.fairness.length df] : List Value)).length = us.length + 5 := by simp
      rw [this]
      exact own_base ho6 (by omega)
    rw [hLV] at hst0
    have HST0 := Lib.hid hst0
    have HM := Lib.hid (And.intro hM (And.intro hMl (And.intro hMe (And.intro hLV (And.intro hRlen hLit)))))
    have HR0 := Lib.hid hR0
    have hgo : X.heap.size = X.heap.size := rfl
    clear hX0 hXB hXM hXN hXC hM hMl hMe hR0 hLV hRlen hLit hst0 ho6 hb6 hgo
    go_wp2
    go_loopg [64] (us.length + 5) (fun k j wx => ∃ p : Nat, p ≤ us.length + 5 ∧ k = us.length + 5 - p ∧ j = .int .i64 p ∧ RnL w2 X wx w3.heap.size #[.int .i64 ((nI : Int) + nL + nA), .slice Bi C.inputs.length di, .slice Bl C.latches.length dl, .slice Bo C.outputs.length do_, .slice Bb C.bads.length db, .slice Bc C.constraints.length dc, .slice Bj us.length dj, .slice Bf C.fairness.length df, .slice Ba C.ands.length da, .slice Bs C.symbols.length ds, .slice Bt C.comments.length dt] gm (m.toNat + 1) M ⟨.slice Bi C.inputs.length di, .slice Bl C.latches.length dl, .slice Bo C.outputs.length do_, .slice Bb C.bads.length db, .slice Bc C.constraints.length dc, .slice Bj us.length dj, .slice Bf C.fairness.length df, .slice Ba C.ands.length da, .slice Bs C.symbols.length ds, .slice Bt C.comments.length dt⟩ us C (.slice A6 (us.length + 5) c6) (R0.map (·.1)) ((R0.take p).map (mvR M) ++ R0.drop p))
    case atStart => exact ⟨0, Nat.zero_le _, rfl, rfl, HST0.out⟩
    case round =>
      obtain ⟨p, hp, hgk, rfl, hst⟩ := hrel
      subst hgk
      have HST := Lib.hid hst
      by_cases hlt : p < us.length + 5
      · obtain ⟨hMM, hMl, hMe, hLV, hRlen, hLit⟩ := HM.out
        obtain ⟨⟨v, L⟩, hr⟩ : ∃ r, R0[p]? = some r := ⟨_, List.getElem?_eq_getElem (by omega)⟩
        have hlp : ((R0.take p).map (mvR M)).length = p := by rw [List.length_map, List.length_take]; omega
        have hRp : ((R0.take p).map (mvR M) ++ R0.drop p)[p]? = some (v, L) := by
          rw [List.getElem?_append_right (by rw [hlp]; exact Nat.le_refl _), hlp, Nat.sub_self, List.getElem?_drop]; simpa using hr
        obtain ⟨Av, cv, hv⟩ := own_slice (hst.row hRp)
        subst hv
        obtain ⟨gl, capl, hVl, _, _, _, hcl, _, _⟩ := own_cells_v hst.lv (by rw [List.length_map]; omega)
        injection hVl with e1 e2 e3
        subst e1
        clear e2 e3
        have cl := hcl p (.slice Av L.length cv) (by rw [List.getElem?_map, hr]; rfl)
        have hlitL : ∀ x ∈ L, LitOk C x := hLit _ (List.mem_of_getElem? hr)
        have hLB : L.length ≤ 140737488355328 ∨ True := .inr trivial
        have HLP := Lib.hid hlp
        have HLL := Lib.hid hlitL
        have HST1 : Hid (RnL w2 X wr w3.heap.size #[.int .i64 ((nI : Int) + nL + nA), .slice Bi C.inputs.length di, .slice Bl C.latches.length dl, .slice Bo C.outputs.length do_, .slice Bb C.bads.length db, .slice Bc C.constraints.length dc, .slice Bj us.length dj, .slice Bf C.fairness.length df, .slice Ba C.ands.length da, .slice Bs C.symbols.length ds, .slice Bt C.comments.length dt] gm (m.toNat + 1) M ⟨.slice Bi C.inputs.length di, .slice Bl C.latches.length dl, .slice Bo C.outputs.length do_, .slice Bb C.bads.length db, .slice Bc C.constraints.length dc, .slice Bj us.length dj, .slice Bf C.fairness.length df, .slice Ba C.ands.length da, .slice Bs C.symbols.length ds, .slice Bt C.comments.length dt⟩ us C (.slice (some ⟨gl, 0, none⟩) (us.length + 5) c6) (R0.map (·.1)) ((R0.take p).map (mvR M) ++ (.slice Av L.length cv, (L.take 0).map (mvF M) ++ L.drop 0) :: R0.drop (p + 1))) := Lib.hid (by
          have := HST.out
          rw [drop_one hr] at this
          exact this)
        have HLN : Hid (L.length ≤ maxLen) := Lib.hid (by
          rcases (hst.row hRp).2 with ⟨h0, _⟩ | ⟨_, _, _, _, _, _, h1, h2, _⟩
          · injection h0 with _ h2 _; rw [h2]; exact Nat.zero_le _
          · exact Nat.le_trans h1 h2)
        have HNX : Hid ((R0.take (p + 1)).map (mvR M) ++ R0.drop (p + 1) = (R0.take p).map (mvR M) ++ (.slice Av L.length cv, L.map (mvF M)) :: R0.drop (p + 1)) := Lib.hid (by
          rw [List.take_add_one, hr]; simp [mvR])
        clear hst hr hlp hRp hcl hlitL hLB hMM hMl hMe hLV hRlen hLit
        have hlt' : (p : Int) < (us.length : Int) + 5 := by omega
        go_wp2
        go_loopg [70] L.length (fun k j wx => ∃ q : Nat, q ≤ L.length ∧ k = L.length - q ∧ j = .int .i64 q ∧ RnL w2 X wx w3.heap.size #[.int .i64 ((nI : Int) + nL + nA), .slice Bi C.inputs.length di, .slice Bl C.latches.length dl, .slice Bo C.outputs.length do_, .slice Bb C.bads.length db, .slice Bc C.constraints.length dc, .slice Bj us.length dj, .slice Bf C.fairness.length df, .slice Ba C.ands.length da, .slice Bs C.symbols.length ds, .slice Bt C.comments.length dt] gm (m.toNat + 1) M ⟨.slice Bi C.inputs.length di, .slice Bl C.latches.length dl, .slice Bo C.outputs.length do_, .slice Bb C.bads.length db, .slice Bc C.constraints.length dc, .slice Bj us.length dj, .slice Bf C.fairness.length df, .slice Ba C.ands.length da, .slice Bs C.symbols.length ds, .slice Bt C.comments.length dt⟩ us C (.slice (some ⟨gl, 0, none⟩) (us.length + 5) c6) (R0.map (·.1)) ((R0.take p).map (mvR M) ++ (.slice Av L.length cv, (L.take q).map (mvF M) ++ L.drop q) :: R0.drop (p + 1)))
        case atStart => exact ⟨0, Nat.zero_le _, rfl, rfl, HST1.out⟩
        case round =>
          obtain ⟨q, hq, hgk, rfl, hst⟩ := hrel
          subst hgk
          have HS2 := Lib.hid hst
          have hln := HLN.out
          unfold maxLen at hln
          by_cases hql : q < L.length
          · obtain ⟨hMM, hMl, hMe, hLV, hRlen, hLit⟩ := HM.out
            obtain ⟨x, hx⟩ : ∃ x, L[q]? = some x := ⟨_, List.getElem?_eq_getElem hql⟩
            obtain ⟨hx0, hx1⟩ := HLL.out x (List.mem_of_getElem? hx)
            have hcm := HMM.out
            have hlen : ((L.take q).map (mvF M) ++ L.drop q).length = L.length := by simp; omega
            have hRq : ((R0.take p).map (mvR M) ++ (.slice Av L.length cv, (L.take q).map (mvF M) ++ L.drop q) :: R0.drop (p + 1))[p]? = some (.slice Av L.length cv, (L.take q).map (mvF M) ++ L.drop q) := by
              rw [List.getElem?_append_right (by rw [HLP.out]; exact Nat.le_refl _), HLP.out, Nat.sub_self]; rfl
            have HRQ := Lib.hid hRq
            have hrow := hst.row hRq
            obtain ⟨gr, capr, hvr, _, _, _, _, hcr, hfr, _⟩ := own_cells hrow (by rw [hlen]; omega)
            injection hvr with e1 e2 e3
            subst e1
            clear e2 e3
            have cr := hcr q (by rw [hlen]; exact hql)
            have hgx : ((L.take q).map (mvF M) ++ L.drop q).getD q 0 = x := by
              rw [List.getD_eq_getElem?_getD, List.getElem?_append_right (by simp; omega)]
              simp [List.getElem?_drop, Nat.min_eq_left hq, hx]
            rw [hgx] at cr
            have fr := hfr q
            have hmv := move_any wr w2.heap.size gm M x (by rw [hMl]; exact hst.bm) hst.nums hx0 (by rw [hMl]; push_cast; omega) (by rw [hMl]; omega) hMe
            have HMV := Lib.hid hmv
            have HX := Lib.hid hx
            have HLE := Lib.hid hlen
            clear hst hx hlen hRq hrow hcr hfr hgx hmv hMM hMl hMe hLV hRlen hLit hln
            go_wp2_with (go_at_call 57; refine HMV.out.mono ?_; rintro e w5 ⟨rfl, rfl⟩)
            go_roundg (L.length - (q + 1))
            case measure => omega
            case rel =>
              refine ⟨q + 1, by omega, rfl, by have h9 : L.length ≤ 9223372036854775807 := HLN.out; rw [IntWalk.wrap64_in _ ⟨by omega, by omega⟩]; push_cast; rfl, ?_⟩
              have := HS2.out.set_ (p := p) HRQ.out (k := q) (by rw [HLE.out]; exact hql) (mvF M x)
              rw [mv_step M HX.out] at this
              have e := set_midR ((R0.take p).map (mvR M)) (Value.slice (some ⟨gr, 0, none⟩) L.length cv, (L.take q).map (mvF M) ++ L.drop q) (Value.slice (some ⟨gr, 0, none⟩) L.length cv, (L.take (q + 1)).map (mvF M) ++ L.drop (q + 1)) (R0.drop (p + 1))
              rw [HLP.out] at e
              rw [e] at this
              exact this
          · have hqe : L.length = q := by omega
            have HQE := Lib.hid hqe
            clear hst hqe
            go_wp2
            go_roundg (us.length + 5 - (p + 1))
            case measure => omega
            case rel =>
              refine ⟨p + 1, by omega, rfl, by go_num, ?_⟩
              rw [HNX.out]
              have := HS2.out
              rw [← HQE.out, List.take_length, List.drop_length, List.append_nil] at this
              exact this
      · have hpe : us.length + 5 = p := by omega
        have HPE := Lib.hid hpe
        have HWX : Hid (Below W0.heap.size W0 wr) := Lib.hid (HXX.out.1.trans (hst.below.mono HB2.out.size))
        obtain ⟨c0, c1, c2, c3, c4, c5, c6', c7, c8, c9, c10⟩ := box_of (HBX.out wr HWX.out)
        clear hst hpe
        have HSR : Hid (RnL w2 X wr w3.heap.size #[.int .i64 ((nI : Int) + nL + nA), .slice Bi C.inputs.length di, .slice Bl C.latches.length dl, .slice Bo C.outputs.length do_, .slice Bb C.bads.length db, .slice Bc C.constraints.length dc, .slice Bj us.length dj, .slice Bf C.fairness.length df, .slice Ba C.ands.length da, .slice Bs C.symbols.length ds, .slice Bt C.comments.length dt] gm (m.toNat + 1) M ⟨.slice Bi C.inputs.length di, .slice Bl C.latches.length dl, .slice Bo C.outputs.length do_, .slice Bb C.bads.length db, .slice Bc C.constraints.length dc, .slice Bj us.length dj, .slice Bf C.fairness.length df, .slice Ba C.ands.length da, .slice Bs C.symbols.length ds, .slice Bt C.comments.length dt⟩ us { C with latches := (C.latches.take 0).map (mvL M) ++ C.latches.drop 0 } (.slice A6 (us.length + 5) c6) (R0.map (·.1)) (R0.map (mvR M))) := Lib.hid (by
          have := HST.out
          rw [List.take_of_length_le (by rw [← HPE.out, HM.out.2.2.2.2.1]; exact Nat.le_refl _), List.drop_eq_nil_of_le (by rw [← HPE.out, HM.out.2.2.2.2.1]; exact Nat.le_refl _), List.append_nil] at this
          exact ⟨this.below, this.fam, this.lv, this.box, this.bm, this.nums, this.gml, this.j, this.l, this.a, this.s, this.t⟩)
        have HW0X := Lib.hid HXX.out.1
        clear c0 c1 c3 c4 c5 c6' c7 c8 c9 c10
        go_wp2
        clear c2
        go_loopg [86] nL (fun k j wx => ∃ q : Nat, q ≤ nL ∧ k = nL - q ∧ j = .int .i64 q ∧ RnL w2 X wx w3.heap.size #[.int .i64 ((nI : Int) + nL + nA), .slice Bi C.inputs.length di, .slice Bl C.latches.length dl, .slice Bo C.outputs.length do_, .slice Bb C.bads.length db, .slice Bc C.constraints.length dc, .slice Bj us.length dj, .slice Bf C.fairness.length df, .slice Ba C.ands.length da, .slice Bs C.symbols.length ds, .slice Bt C.comments.length dt] gm (m.toNat + 1) M ⟨.slice Bi C.inputs.length di, .slice Bl C.latches.length dl, .slice Bo C.outputs.length do_, .slice Bb C.bads.length db, .slice Bc C.constraints.length dc, .slice Bj us.length dj, .slice Bf C.fairness.length df, .slice Ba C.ands.length da, .slice Bs C.symbols.length ds, .slice Bt C.comments.length dt⟩ us { C with latches := (C.latches.take q).map (mvL M) ++ C.latches.drop q } (.slice A6 (us.length + 5) c6) (R0.map (·.1)) (R0.map (mvR M)))
        case atStart => exact ⟨0, Nat.zero_le _, rfl, rfl, HSR.out⟩
        case round =>
          obtain ⟨q, hq, hgk, rfl, hst⟩ := hrel
          subst hgk
          have HS2 := Lib.hid hst
          have HWR : Hid (Below W0.heap.size W0 wr) := Lib.hid (HW0X.out.trans (hst.below.mono HB2.out.size))
          by_cases hql : q < nL
          · obtain ⟨hMM, hMl, hMe, hLV, hRlen, hLit⟩ := HM.out
            have hnL := HN.out.2.1
            obtain ⟨z, hz⟩ : ∃ z, C.latches[q]? = some z := ⟨_, List.getElem?_eq_getElem (by rw [hnL]; exact hql)⟩
            obtain ⟨⟨hz0, hz1⟩, hz2, hz3⟩ := HRT.out.l z (List.mem_of_getElem? hz)
            obtain ⟨A', cc', eA', _, _, hrun⟩ := (HIN.out wr HWR.out).l
            injection eA' with g1 g2 g3
            subst g1
            clear g2 g3
            obtain ⟨b, off, g4, hb, hcell⟩ := hrun q z hz
            subst g4
            have i0 := hcell 0 _ rfl
            have i1 := hcell 1 _ rfl
            have i2 := hcell 2 _ rfl
            simp only [Nat.add_zero, ← Nat.add_assoc] at i0 i1 i2
            have hLL : ((C.latches.take q).map (mvL M) ++ C.latches.drop q).length = C.latches.length := by simp; omega
            have hLq : ((C.latches.take q).map (mvL M) ++ C.latches.drop q)[q]? = some z := by
              rw [List.getElem?_append_right (by simp; omega)]
              simp [List.getElem?_drop, hz, hnL, Nat.min_eq_left hq]
            obtain ⟨gl3, cap3, hv3, hB3, hgl3, _, hc3, hf3, _⟩ := own_cells3 hst.l (by rw [hLL, hnL]; omega)
            injection hv3 with g1 g2 g3
            subst g1
            clear g2 g3
            obtain ⟨k0, k1, k2⟩ := hc3 q z hLq
            have f0 := hf3 (q * 3)
            have f1 := hf3 (q * 3 + 1)
            have f2 := hf3 (q * 3 + 2)
            have kb := hst.box.cell 2
            simp only [List.getElem?_toArray, List.getElem?_cons_zero, List.getElem?_cons_succ] at kb
            have HLQ := Lib.hid (And.intro hLL hLq)
            have HLZ := Lib.hid hz
            obtain ⟨z0, z1, z2⟩ := z
            simp only at i0 i1 i2 k0 k1 k2 hz0 hz1 hz2 hz3
            clear hst hrun hcell hc3 hf3 hLL hLq hMM hMl hMe hLV hRlen hLit hnL
            have hmv : ∀ l, LitOk C l → Calls Try.prog 57 #[.int .i64 l, .pointer (some ⟨w2.heap.size, 0, none⟩)] ((wr.alloc (.cells #[.int .i64 z0, .int .i64 z1, .int .i64 z2] 61)).drew) fun e w' => e = .returned (.int .i64 (mvF M l)) ∧ w' = ((wr.alloc (.cells #[.int .i64 z0, .int .i64 z1, .int .i64 z2] 61)).drew) := fun l hl => by
              obtain ⟨hMM, hMl, hMe, _⟩ := HM.out
              have hcm := HMM.out
              exact move_any ((wr.alloc (.cells #[.int .i64 z0, .int .i64 z1, .int .i64 z2] 61)).drew) w2.heap.size gm M l (by rw [hMl]; exact (HS2.out.bm.alloc _).drew) (Blk.drew (Blk.alloc HS2.out.nums _)) hl.1 (by rw [hMl]; have := hl.2; push_cast; omega) (by rw [hMl]; omega) hMe
            have HMV := Lib.hid hmv
            have hbl : b < wr.heap.size := Nat.lt_of_lt_of_le hb (by have := HWR.out.size; have := HB0.out.size; omega)
            have HLI := Lib.hid (And.intro (show LitOk C z0 from ⟨by omega, hz1⟩) (And.intro hz2 (show LitOk C z2 from by
              have := HRT.out.m0
              rcases hz3 with h | h | h
              · rw [h]; exact ⟨by omega, by omega⟩
              · rw [h]; exact ⟨by omega, by omega⟩
              · rw [h]; exact ⟨by omega, hz1⟩)))
            have hbX : Below wr.heap.size wr ((wr.alloc (.cells #[.int .i64 z0, .int .i64 z1, .int .i64 z2] 61)).drew) := ((Below.refl _ _).alloc (Nat.le_refl _) _).drew
            have j0 := (hbX.cell (p := ⟨gl3, q * 3, none⟩) hgl3).trans k0
            have j1 := (hbX.cell (p := ⟨gl3, q * 3 + 1, none⟩) hgl3).trans k1
            have j2 := (hbX.cell (p := ⟨gl3, q * 3 + 2, none⟩) hgl3).trans k2
            have l0 := (hbX.frozen (p := ⟨gl3, q * 3, none⟩) hgl3).trans f0
            have l1 := (hbX.frozen (p := ⟨gl3, q * 3 + 1, none⟩) hgl3).trans f1
            have l2 := (hbX.frozen (p := ⟨gl3, q * 3 + 2, none⟩) hgl3).trans f2
            have hqb : (q : Int) < (C.latches.length : Int) := by have := HN.out.2.1; omega
            have hqb0 : (0 : Int) ≤ (q : Int) := by omega
            have hst3 : RnL w2 X (((wr.setCell ⟨gl3, q * 3, none⟩ (.int .i64 (mvF M z0))).setCell ⟨gl3, q * 3 + 1, none⟩ (.int .i64 (mvF M z1))).setCell ⟨gl3, q * 3 + 2, none⟩ (.int .i64 (mvF M z2))) w3.heap.size #[.int .i64 ((nI : Int) + nL + nA), .slice Bi C.inputs.length di, .slice (some ⟨gl3, 0, none⟩) C.latches.length dl, .slice Bo C.outputs.length do_, .slice Bb C.bads.length db, .slice Bc C.constraints.length dc, .slice Bj us.length dj, .slice Bf C.fairness.length df, .slice Ba C.ands.length da, .slice Bs C.symbols.length ds, .slice Bt C.comments.length dt] gm (m.toNat + 1) M ⟨.slice Bi C.inputs.length di, .slice (some ⟨gl3, 0, none⟩) C.latches.length dl, .slice Bo C.outputs.length do_, .slice Bb C.bads.length db, .slice Bc C.constraints.length dc, .slice Bj us.length dj, .slice Bf C.fairness.length df, .slice Ba C.ands.length da, .slice Bs C.symbols.length ds, .slice Bt C.comments.length dt⟩ us { C with latches := (C.latches.take (q + 1)).map (mvL M) ++ C.latches.drop (q + 1) } (.slice A6 (us.length + 5) c6) (R0.map (·.1)) (R0.map (mvR M)) := by
              have := HS2.out.setL (by rw [HLQ.out.1]; have := HN.out.2.1; omega) rfl (z0, z1, z2) (mvL M (z0, z1, z2)) HLQ.out.2
              rw [mvL_step M HLZ.out] at this
              exact this
            have HST3 := Lib.hid hst3
            have HKE : Hid ((((((wr.setCell ⟨gl3, q * 3, none⟩ (.int .i64 (mvF M z0))).setCell ⟨gl3, q * 3 + 1, none⟩ (.int .i64 (mvF M z1))).setCell ⟨gl3, q * 3 + 2, none⟩ (.int .i64 (mvF M z2))).alloc (.cells #[.int .i64 z0, .int .i64 z1, .int .i64 z2] 61)).drew).cell? ⟨w3.heap.size, 2, none⟩ = some (.slice (some ⟨gl3, 0, none⟩) C.latches.length dl) ∧ (((((wr.setCell ⟨gl3, q * 3, none⟩ (.int .i64 (mvF M z0))).setCell ⟨gl3, q * 3 + 1, none⟩ (.int .i64 (mvF M z1))).setCell ⟨gl3, q * 3 + 2, none⟩ (.int .i64 (mvF M z2))).alloc (.cells #[.int .i64 z0, .int .i64 z1, .int .i64 z2] 61)).drew).cell? ⟨wr.heap.size, 0, none⟩ = some (.int .i64 z0) ∧ (((((wr.setCell ⟨gl3, q * 3, none⟩ (.int .i64 (mvF M z0))).setCell ⟨gl3, q * 3 + 1, none⟩ (.int .i64 (mvF M z1))).setCell ⟨gl3, q * 3 + 2, none⟩ (.int .i64 (mvF M z2))).alloc (.cells #[.int .i64 z0, .int .i64 z1, .int .i64 z2] 61)).drew).cell? ⟨wr.heap.size, 1, none⟩ = some (.int .i64 z1) ∧ (((((wr.setCell ⟨gl3, q * 3, none⟩ (.int .i64 (mvF M z0))).setCell ⟨gl3, q * 3 + 1, none⟩ (.int .i64 (mvF M z1))).setCell ⟨gl3, q * 3 + 2, none⟩ (.int .i64 (mvF M z2))).alloc (.cells #[.int .i64 z0, .int .i64 z1, .int .i64 z2] 61)).drew).cell? ⟨wr.heap.size, 2, none⟩ = some (.int .i64 z2)) := Lib.hid (by
              have e1 := (hst3.box.alloc (.cells #[.int .i64 z0, .int .i64 z1, .int .i64 z2] 61)).drew
              have e2 := (Blk.new (((wr.setCell ⟨gl3, q * 3, none⟩ (.int .i64 (mvF M z0))).setCell ⟨gl3, q * 3 + 1, none⟩ (.int .i64 (mvF M z1))).setCell ⟨gl3, q * 3 + 2, none⟩ (.int .i64 (mvF M z2))) 61 #[.int .i64 z0, .int .i64 z1, .int .i64 z2]).drew
              have e3 : ((((wr.setCell ⟨gl3, q * 3, none⟩ (.int .i64 (mvF M z0))).setCell ⟨gl3, q * 3 + 1, none⟩ (.int .i64 (mvF M z1))).setCell ⟨gl3, q * 3 + 2, none⟩ (.int .i64 (mvF M z2)))).heap.size = wr.heap.size := by simp [World.setCell]
              rw [e3] at e2
              exact ⟨e1.cell 2, e2.cell 0, e2.cell 1, e2.cell 2⟩)
            clear hmv hz0 hz1 hz2 hz3 hbX hst3
            go_upto_region 20 with (fail)
            go_region_held3 (fun w' => w'.cell? ⟨w3.heap.size, 2, none⟩ = some (.slice (some ⟨gl3, 0, none⟩) C.latches.length dl) ∧ w'.cell? ⟨wr.heap.size, 0, none⟩ = some (.int .i64 z0) ∧ w'.cell? ⟨wr.heap.size, 1, none⟩ = some (.int .i64 z1) ∧ w'.cell? ⟨wr.heap.size, 2, none⟩ = some (.int .i64 z2)) (first | exact HKE.out | go_keep)
              (first
                | (go_at_call_of 57 z0; refine (HMV.out z0 HLI.out.1).mono ?_; rintro e w5 ⟨rfl, rfl⟩)
                | (go_at_call_of 57 z1; refine (HMV.out z1 HLI.out.2.1).mono ?_; rintro e w5 ⟨rfl, rfl⟩)
                | (go_at_call_of 57 z2; refine (HMV.out z2 HLI.out.2.2).mono ?_; rintro e w5 ⟨rfl, rfl⟩))
            go_wp2
            go_roundg (nL - (q + 1))
            case measure => omega
            case rel => exact ⟨q + 1, by omega, rfl, by go_num, (HST3.out.alloc _).drew⟩
          · have hqe : nL = q := by omega
            have HQE := Lib.hid hqe
            clear hst hqe
            obtain ⟨Ag, cg, hvg⟩ := own_slice HO1.out
            subst hvg
            have HSA : Hid (RnL w2 X wr w3.heap.size #[.int .i64 ((nI : Int) + nL + nA), .slice Bi C.inputs.length di, .slice Bl C.latches.length dl, .slice Bo C.outputs.length do_, .slice Bb C.bads.length db, .slice Bc C.constraints.length dc, .slice Bj us.length dj, .slice Bf C.fairness.length df, .slice Ba C.ands.length da, .slice Bs C.symbols.length ds, .slice Bt C.comments.length dt] gm (m.toNat + 1) M ⟨.slice Bi C.inputs.length di, .slice Bl C.latches.length dl, .slice Bo C.outputs.length do_, .slice Bb C.bads.length db, .slice Bc C.constraints.length dc, .slice Bj us.length dj, .slice Bf C.fairness.length df, .slice Ba C.ands.length da, .slice Bs C.symbols.length ds, .slice Bt C.comments.length dt⟩ us { C with latches := C.latches.map (mvL M), ands := (out.take 0).map (fun g : Int => renAnd M (C.ands.getD g.toNat (0, 0, 0))) ++ C.ands.drop 0 } (.slice A6 (us.length + 5) c6) (R0.map (·.1)) (R0.map (mvR M))) := Lib.hid (by
              have := HS2.out
              have e1 := HQE.out
              have e2 := HN.out.2.1
              rw [List.take_of_length_le (by omega), List.drop_eq_nil_of_le (by omega), List.append_nil] at this
              exact ⟨this.below, this.fam, this.lv, this.box, this.bm, this.nums, this.gml, this.j, this.l, this.a, this.s, this.t⟩)
            have hol := HL1.out
            rw [HN.out.2.2] at hol
            have HOL := Lib.hid hol
            generalize hno : out.length = nO at *
            have HNO := Lib.hid hno
            have hnO : nO ≤ 16384 := by omega
            clear hol hno
            go_wp2
            go_loopg [111] nO (fun k j wx => ∃ q : Nat, q ≤ nO ∧ k = nO - q ∧ j = .int .i64 q ∧ RnL w2 X wx w3.heap.size #[.int .i64 ((nI : Int) + nL + nA), .slice Bi C.inputs.length di, .slice Bl C.latches.length dl, .slice Bo C.outputs.length do_, .slice Bb C.bads.length db, .slice Bc C.constraints.length dc, .slice Bj us.length dj, .slice Bf C.fairness.length df, .slice Ba C.ands.length da, .slice Bs C.symbols.length ds, .slice Bt C.comments.length dt] gm (m.toNat + 1) M ⟨.slice Bi C.inputs.length di, .slice Bl C.latches.length dl, .slice Bo C.outputs.length do_, .slice Bb C.bads.length db, .slice Bc C.constraints.length dc, .slice Bj us.length dj, .slice Bf C.fairness.length df, .slice Ba C.ands.length da, .slice Bs C.symbols.length ds, .slice Bt C.comments.length dt⟩ us { C with latches := C.latches.map (mvL M), ands := (out.take q).map (fun g : Int => renAnd M (C.ands.getD g.toNat (0, 0, 0))) ++ C.ands.drop q } (.slice A6 (us.length + 5) c6) (R0.map (·.1)) (R0.map (mvR M)))
            case atStart => exact ⟨0, Nat.zero_le _, rfl, rfl, HSA.out⟩
            case round =>
              obtain ⟨q, hq, hgk, rfl, hst⟩ := hrel
              subst hgk
              have HS3 := Lib.hid hst
              have HWR : Hid (Below W0.heap.size W0 wr) := Lib.hid (HW0X.out.trans (hst.below.mono HB2.out.size))
              obtain ⟨c0, c1, c2, c3, c4, c5, c6', c7, c8, c9, c10⟩ := box_of (HBX.out wr HWR.out)
              by_cases hql : q < nO
              · have hwo : wr.ownsRow W0.heap.size 3 1 (.slice Ag nO cg) out.length (out.map (Value.int .i64)) := by
                  rw [HNO.out]
                  exact own_below HO1.out ((HB12.out.trans (HX2.out.mono HB12.out.size)).trans (hst.below.mono HB12.out.size))
                obtain ⟨gg, capg, hvg, _, _, _, hglt, hcg, _, _⟩ := own_cells hwo (by rw [HNO.out]; omega)
                injection hvg with g1 g2 g3
                subst g1
                clear g2 g3
                obtain ⟨g, hg⟩ : ∃ g, out[q]? = some g := ⟨_, List.getElem?_eq_getElem (by rw [HNO.out]; exact hql)⟩
                have hgD : out.getD q 0 = g := by simp [List.getD, hg]
                have cg0 := hcg q (by rw [HNO.out]; exact hql)
                rw [hgD] at cg0
                have hgr := HG1.out.inR g (List.mem_of_getElem? hg)
                unfold InR at hgr
                rw [usesC_len] at hgr
                obtain ⟨gn, rfl⟩ : ∃ gn : Nat, g = (gn : Int) := ⟨g.toNat, by omega⟩
                obtain ⟨z, hz⟩ : ∃ z, C.ands[gn]? = some z := ⟨_, List.getElem?_eq_getElem (by omega)⟩
                have hgnA : (gn : Int) < (nA : Int) := by have := HN.out.2.2; omega
                obtain ⟨⟨hz0, hz1⟩, hz2, hz3⟩ := HRT.out.a z (List.mem_of_getElem? hz)
                obtain ⟨A', cc', eA', _, _, hrun⟩ := (HIN.out wr HWR.out).a
                injection eA' with g1 g2 g3
                subst g1
                clear g2 g3
                obtain ⟨b, off, g4, hb, hcell⟩ := hrun gn z hz
                subst g4
                have i0 := hcell 0 _ rfl
                have i1 := hcell 1 _ rfl
                have i2 := hcell 2 _ rfl
                simp only [Nat.add_zero, ← Nat.add_assoc] at i0 i1 i2
                have hLL : ((out.take q).map (fun g : Int => renAnd M (C.ands.getD g.toNat (0, 0, 0))) ++ C.ands.drop q).length = C.ands.length := by
                  have := HL1.out
                  have := HNO.out
                  simp; omega
                have hqA : q < C.ands.length := by have := HL1.out; have := HNO.out; omega
                obtain ⟨y, hy⟩ : ∃ y, C.ands[q]? = some y := ⟨_, List.getElem?_eq_getElem hqA⟩
                have hLq : ((out.take q).map (fun g : Int => renAnd M (C.ands.getD g.toNat (0, 0, 0))) ++ C.ands.drop q)[q]? = some y := by
                  have := HNO.out
                  rw [List.getElem?_append_right (by simp; omega)]
                  simp [List.getElem?_drop, hy, this, Nat.min_eq_left hq]
                obtain ⟨gl3, cap3, hv3, hB3, hgl3, _, hc3, hf3, _⟩ := own_cells3 hst.a (by rw [hLL]; omega)
                injection hv3 with g1 g2 g3
                subst g1
                clear g2 g3
                obtain ⟨k0, k1, k2⟩ := hc3 q y hLq
                have f0 := hf3 (q * 3)
                have f1 := hf3 (q * 3 + 1)
                have f2 := hf3 (q * 3 + 2)
                have kb := hst.box.cell 8
                simp only [List.getElem?_toArray, List.getElem?_cons_zero, List.getElem?_cons_succ] at kb
                have HLQ := Lib.hid (And.intro hLL (And.intro hLq (And.intro hg (And.intro hz hqA))))
                obtain ⟨z0, z1, z2⟩ := z
                simp only at i0 i1 i2 hz0 hz1 hz2 hz3
                have HLI := Lib.hid (And.intro (show LitOk C z0 from ⟨by omega, hz1⟩) (And.intro hz2 hz3))
                have hqb : (q : Int) < (C.ands.length : Int) := by omega
                have hqb0 : (0 : Int) ≤ (q : Int) := by omega
                clear hst hrun hcell hc3 hf3 hLL hLq hz0 hz1 hz2 hz3 hwo hcg hgD hg hz hy hgr
                have hmv : ∀ wx : World, Blk wx w2.heap.size 22 #[.slice (some ⟨gm, 0, none⟩) (m.toNat + 1) (m.toNat + 1)] → Nums wx gm M → ∀ l, LitOk C l → Calls Try.prog 57 #[.int .i64 l, .pointer (some ⟨w2.heap.size, 0, none⟩)] wx fun e w' => e = .returned (.int .i64 (mvF M l)) ∧ w' = wx := fun wx h1 h2 l hl => by
                  obtain ⟨hMM, hMl, hMe, _⟩ := HM.out
                  have hcm := HMM.out
                  exact move_any wx w2.heap.size gm M l (by rw [hMl]; exact h1) h2 hl.1 (by rw [hMl]; have := hl.2; push_cast; omega) (by rw [hMl]; omega) hMe
                have HMA := Lib.hid (hmv ((wr.alloc (.cells #[.int .i64 z0, .int .i64 z1, .int .i64 z2] 64)).drew) (HS3.out.bm.alloc _).drew (Blk.drew (Blk.alloc HS3.out.nums _)))
                have HMB := Lib.hid (hmv ((wr.alloc (.cells #[.int .i64 z0, .int .i64 z1, .int .i64 z2] 64)).drew.drew) (HS3.out.bm.alloc _).drew.drew (Blk.drew (Blk.drew (Blk.alloc HS3.out.nums _))))
                have hbX : Below wr.heap.size wr ((wr.alloc (.cells #[.int .i64 z0, .int .i64 z1, .int .i64 z2] 64)).drew.drew) := ((Below.refl _ _).alloc (Nat.le_refl _) _).drew.drew
                have j0 := (hbX.cell (p := ⟨gl3, q * 3, none⟩) hgl3).trans k0
                have j1 := (hbX.cell (p := ⟨gl3, q * 3 + 1, none⟩) hgl3).trans k1
                have j2 := (hbX.cell (p := ⟨gl3, q * 3 + 2, none⟩) hgl3).trans k2
                have l0 := (hbX.frozen (p := ⟨gl3, q * 3, none⟩) hgl3).trans f0
                have l1 := (hbX.frozen (p := ⟨gl3, q * 3 + 1, none⟩) hgl3).trans f1
                have l2 := (hbX.frozen (p := ⟨gl3, q * 3 + 2, none⟩) hgl3).trans f2
                have hst3 : RnL w2 X (((wr.setCell ⟨gl3, q * 3, none⟩ (.int .i64 (mvF M z0))).setCell ⟨gl3, q * 3 + 1, none⟩ (.int .i64 (max (mvF M z1) (mvF M z2)))).setCell ⟨gl3, q * 3 + 2, none⟩ (.int .i64 (min (mvF M z1) (mvF M z2)))) w3.heap.size #[.int .i64 ((nI : Int) + nL + nA), .slice Bi C.inputs.length di, .slice Bl C.latches.length dl, .slice Bo C.outputs.length do_, .slice Bb C.bads.length db, .slice Bc C.constraints.length dc, .slice Bj us.length dj, .slice Bf C.fairness.length df, .slice (some ⟨gl3, 0, none⟩) C.ands.length da, .slice Bs C.symbols.length ds, .slice Bt C.comments.length dt] gm (m.toNat + 1) M ⟨.slice Bi C.inputs.length di, .slice Bl C.latches.length dl, .slice Bo C.outputs.length do_, .slice Bb C.bads.length db, .slice Bc C.constraints.length dc, .slice Bj us.length dj, .slice Bf C.fairness.length df, .slice (some ⟨gl3, 0, none⟩) C.ands.length da, .slice Bs C.symbols.length ds, .slice Bt C.comments.length dt⟩ us { C with latches := C.latches.map (mvL M), ands := (out.take (q + 1)).map (fun g : Int => renAnd M (C.ands.getD g.toNat (0, 0, 0))) ++ C.ands.drop (q + 1) } (.slice A6 (us.length + 5) c6) (R0.map (·.1)) (R0.map (mvR M)) := by
                  obtain ⟨h1, h2, h3, h4, h5⟩ := HLQ.out
                  have := HS3.out.setA (by rw [h1]; exact h5) rfl y (renAnd M (z0, z1, z2)) h2
                  have e := set_seq2 (f := (fun g : Int => renAnd M (C.ands.getD g.toNat (0, 0, 0)))) h3 h5
                  have e2 : renAnd M (C.ands.getD ((gn : Int)).toNat (0, 0, 0)) = renAnd M (z0, z1, z2) := by simp [List.getD, h4]
                  rw [e2] at e
                  simp only [e] at this
                  exact this
                have HST3 := Lib.hid hst3
                have HKE : Hid ((((((wr.setCell ⟨gl3, q * 3, none⟩ (.int .i64 (mvF M z0))).setCell ⟨gl3, q * 3 + 1, none⟩ (.int .i64 (max (mvF M z1) (mvF M z2)))).setCell ⟨gl3, q * 3 + 2, none⟩ (.int .i64 (min (mvF M z1) (mvF M z2)))).alloc (.cells #[.int .i64 z0, .int .i64 z1, .int .i64 z2] 64)).drew.drew).cell? ⟨w3.heap.size, 8, none⟩ = some (.slice (some ⟨gl3, 0, none⟩) C.ands.length da) ∧ (((((wr.setCell ⟨gl3, q * 3, none⟩ (.int .i64 (mvF M z0))).setCell ⟨gl3, q * 3 + 1, none⟩ (.int .i64 (max (mvF M z1) (mvF M z2)))).setCell ⟨gl3, q * 3 + 2, none⟩ (.int .i64 (min (mvF M z1) (mvF M z2)))).alloc (.cells #[.int .i64 z0, .int .i64 z1, .int .i64 z2] 64)).drew.drew).cell? ⟨wr.heap.size, 0, none⟩ = some (.int .i64 z0)) := Lib.hid (by
                  have e1 := (hst3.box.alloc (.cells #[.int .i64 z0, .int .i64 z1, .int .i64 z2] 64)).drew.drew
                  have e2 := (Blk.new (((wr.setCell ⟨gl3, q * 3, none⟩ (.int .i64 (mvF M z0))).setCell ⟨gl3, q * 3 + 1, none⟩ (.int .i64 (max (mvF M z1) (mvF M z2)))).setCell ⟨gl3, q * 3 + 2, none⟩ (.int .i64 (min (mvF M z1) (mvF M z2)))) 64 #[.int .i64 z0, .int .i64 z1, .int .i64 z2]).drew.drew
                  have e3 : ((((wr.setCell ⟨gl3, q * 3, none⟩ (.int .i64 (mvF M z0))).setCell ⟨gl3, q * 3 + 1, none⟩ (.int .i64 (max (mvF M z1) (mvF M z2)))).setCell ⟨gl3, q * 3 + 2, none⟩ (.int .i64 (min (mvF M z1) (mvF M z2))))).heap.size = wr.heap.size := by simp [World.setCell]
                  rw [e3] at e2
                  exact ⟨e1.cell 8, e2.cell 0⟩)
                clear hmv hbX hst3
                go_upto_region 26 with (fail)
                go_region_held3 (fun w' => w'.cell? ⟨wr.heap.size, 0, none⟩ = some (.int .i64 z0) ∧ w'.cell? ⟨wr.heap.size, 1, none⟩ = some (.int .i64 z1) ∧ w'.cell? ⟨wr.heap.size, 2, none⟩ = some (.int .i64 z2)) (go_keep)
                  (first
                    | (go_at_call_of 57 z1; refine (HMA.out z1 HLI.out.2.1).mono ?_; rintro e w5 ⟨rfl, rfl⟩)
                    | (go_at_call_of 57 z2; refine (HMA.out z2 HLI.out.2.2).mono ?_; rintro e w5 ⟨rfl, rfl⟩))
                go_upto_region 27 with (fail)
                go_region_held3 (fun w' => w'.cell? ⟨w3.heap.size, 8, none⟩ = some (.slice (some ⟨gl3, 0, none⟩) C.ands.length da) ∧ w'.cell? ⟨wr.heap.size, 0, none⟩ = some (.int .i64 z0)) (first | exact HKE.out | go_keep)
                  (first
                    | (go_at_call_of 57 z0; refine (HMB.out z0 HLI.out.1).mono ?_; rintro e w5 ⟨rfl, rfl⟩))
                all_goals (
                  go_wp2
                  go_roundg (nO - (q + 1))
                  case measure => omega
                  case rel => exact ⟨q + 1, by omega, rfl, by go_num, (HST3.out.alloc _).drew.drew⟩)
              · have hqe : nO = q := by omega
                have HQ2 := Lib.hid hqe
                have HRES : Hid (wr.heap[w.heap.size + 1]? = some (.cells #[.int .i64 0, .slice none 0 0, .slice none 0 0, .slice none 0 0, .slice none 0 0, .slice none 0 0, .slice none 0 0, .slice none 0 0, .slice none 0 0, .slice none 0 0, .slice none 0 0] 29 (0, 0))) := Lib.hid (by
                  have h1 : Blk W0 (w.heap.size + 1) 29 #[.int .i64 0, .slice none 0 0, .slice none 0 0, .slice none 0 0, .slice none 0 0, .slice none 0 0, .slice none 0 0, .slice none 0 0, .slice none 0 0, .slice none 0 0, .slice none 0 0] := by
                    rw [HW0.out]
                    have := Blk.new (w.alloc (.cells #[.int .i64 m, .slice AI nI cI, .slice AL nL cL, Vo, Vb, Vc, Vj, Vf, .slice AA nA cA, Vs, Vt] 29)) 29 #[.int .i64 0, .slice none 0 0, .slice none 0 0, .slice none 0 0, .slice none 0 0, .slice none 0 0, .slice none 0 0, .slice none 0 0, .slice none 0 0, .slice none 0 0, .slice none 0 0]
                    simpa using this
                  exact h1.below HWR.out h1.lt)
                have HBO : Hid (wr.heap[w3.heap.size]? = some (.cells #[.int .i64 ((nI : Int) + nL + nA), .slice Bi C.inputs.length di, .slice Bl C.latches.length dl, .slice Bo C.outputs.length do_, .slice Bb C.bads.length db, .slice Bc C.constraints.length dc, .slice Bj us.length dj, .slice Bf C.fairness.length df, .slice Ba C.ands.length da, .slice Bs C.symbols.length ds, .slice Bt C.comments.length dt] 29 (0, 0))) := Lib.hid hst.box
                obtain ⟨b0, b1, b2, b3, b4, b5, b6, b7, b8, b9, b10⟩ := box_of hst.box
                have cbm := hst.bm.cell 0
                simp only [List.getElem?_toArray, List.getElem?_cons_zero] at cbm
                have HSQ := Lib.hid hst
                clear hst hqe c0 c1 c2 c3 c4 c5 c6' c7 c8 c9 c10
                go_upto_region 29 with (fail)
                obtain ⟨z0, z1, z2, z3, z4, z5, z6, z7, z8, z9, z10⟩ := box_of (show Blk wr (w.heap.size + 1) _ _ from HRES.out)
                obtain ⟨y0, y1, y2, y3, y4, y5, y6, y7, y8, y9, y10⟩ := blk_frozen11 (show Blk wr (w.heap.size + 1) _ _ from HRES.out)
                have hne1 : w2.heap.size ≠ w.heap.size + 1 := by have := HS0.out; have := HB1.out.size; have := HB2.out.size; omega
                have hne2 : w.heap.size + 1 ≠ w2.heap.size := Ne.symm hne1
                have hR9 : Blk (set11 wr (w.heap.size + 1) (.int .i64 ((nI : Int) + nL + nA)) (.slice Bi C.inputs.length di) (.slice Bl C.latches.length dl) (.slice Bo C.outputs.length do_) (.slice Bb C.bads.length db) (.slice Bc C.constraints.length dc) (.slice Bj us.length dj) (.slice Bf C.fairness.length df) (.slice Ba C.ands.length da) (.slice Bs C.symbols.length ds) (.slice Bt C.comments.length dt)) (w.heap.size + 1) 29 #[.int .i64 ((nI : Int) + nL + nA), .slice Bi C.inputs.length di, .slice Bl C.latches.length dl, .slice Bo C.outputs.length do_, .slice Bb C.bads.length db, .slice Bc C.constraints.length dc, .slice Bj us.length dj, .slice Bf C.fairness.length df, .slice Ba C.ands.length da, .slice Bs C.symbols.length ds, .slice Bt C.comments.length dt] := set11_blk (show Blk wr (w.heap.size + 1) 29 #[.int .i64 0, .slice none 0 0, .slice none 0 0, .slice none 0 0, .slice none 0 0, .slice none 0 0, .slice none 0 0, .slice none 0 0, .slice none 0 0, .slice none 0 0, .slice none 0 0] from HRES.out) (.int .i64 ((nI : Int) + nL + nA)) (.slice Bi C.inputs.length di) (.slice Bl C.latches.length dl) (.slice Bo C.outputs.length do_) (.slice Bb C.bads.length db) (.slice Bc C.constraints.length dc) (.slice Bj us.length dj) (.slice Bf C.fairness.length df) (.slice Ba C.ands.length da) (.slice Bs C.symbols.length ds) (.slice Bt C.comments.length dt)
                have hB9 : Below w.heap.size w (set11 wr (w.heap.size + 1) (.int .i64 ((nI : Int) + nL + nA)) (.slice Bi C.inputs.length di) (.slice Bl C.latches.length dl) (.slice Bo C.outputs.length do_) (.slice Bb C.bads.length db) (.slice Bc C.constraints.length dc) (.slice Bj us.length dj) (.slice Bf C.fairness.length df) (.slice Ba C.ands.length da) (.slice Bs C.symbols.length ds) (.slice Bt C.comments.length dt)) := set11_below (HB0.out.trans (HWR.out.mono HB0.out.size)) (Nat.le_succ _) (.int .i64 ((nI : Int) + nL + nA)) (.slice Bi C.inputs.length di) (.slice Bl C.latches.length dl) (.slice Bo C.outputs.length do_) (.slice Bb C.bads.length db) (.slice Bc C.constraints.length dc) (.slice Bj us.length dj) (.slice Bf C.fairness.length df) (.slice Ba C.ands.length da) (.slice Bs C.symbols.length ds) (.slice Bt C.comments.length dt)
                have hO9 : ∀ k, k ≠ w.heap.size + 1 → (set11 wr (w.heap.size + 1) (.int .i64 ((nI : Int) + nL + nA)) (.slice Bi C.inputs.length di) (.slice Bl C.latches.length dl) (.slice Bo C.outputs.length do_) (.slice Bb C.bads.length db) (.slice Bc C.constraints.length dc) (.slice Bj us.length dj) (.slice Bf C.fairness.length df) (.slice Ba C.ands.length da) (.slice Bs C.symbols.length ds) (.slice Bt C.comments.length dt)).heap[k]? = wr.heap[k]? := fun k hk => set11_other hk (.int .i64 ((nI : Int) + nL + nA)) (.slice Bi C.inputs.length di) (.slice Bl C.latches.length dl) (.slice Bo C.outputs.length do_) (.slice Bb C.bads.length db) (.slice Bc C.constraints.length dc) (.slice Bj us.length dj) (.slice Bf C.fairness.length df) (.slice Ba C.ands.length da) (.slice Bs C.symbols.length ds) (.slice Bt C.comments.length dt)
                obtain ⟨wq, hwq⟩ : ∃ wq, wq = (set11 wr (w.heap.size + 1) (.int .i64 ((nI : Int) + nL + nA)) (.slice Bi C.inputs.length di) (.slice Bl C.latches.length dl) (.slice Bo C.outputs.length do_) (.slice Bb C.bads.length db) (.slice Bc C.constraints.length dc) (.slice Bj us.length dj) (.slice Bf C.fairness.length df) (.slice Ba C.ands.length da) (.slice Bs C.symbols.length ds) (.slice Bt C.comments.length dt)) := ⟨_, rfl⟩
                rw [← hwq] at hR9 hB9 hO9
                unfold set11 at hwq
                have HR9 := Lib.hid hR9
                have HB9 := Lib.hid hB9
                have HO9 := Lib.hid hO9
                have HWQ := Lib.hid hwq
                clear hR9 hB9 hO9 hwq
                go_region
                go_wp2_with (fail)
                rw [← HWQ.out]
                refine bodyPost_ret (results_cell_two (fn := Try.f31) (p := 2) (q := 3) (r := 4) rfl _ wq.drew (w.heap.size + 1) 29 #[.int .i64 ((nI : Int) + nL + nA), .slice Bi C.inputs.length di, .slice Bl C.latches.length dl, .slice Bo C.outputs.length do_, .slice Bb C.bads.length db, .slice Bc C.constraints.length dc, .slice Bj us.length dj, .slice Bf C.fairness.length df, .slice Ba C.ands.length da, .slice Bs C.symbols.length ds, .slice Bt C.comments.length dt] (0, 0) _ rfl (Blk.drew HR9.out) Try.underlying29 rfl (by kernel_rfl) _ _ rfl rfl) rfl ?_
                have hst := HSQ.out
                have hqn := HQ2.out
                have hno := HNO.out
                have hl1 := HL1.out
                have hmx : (renC C out).max = (nI : Int) + nL + nA := by
                  show (C.inputs.length : Int) + C.latches.length + C.ands.length = _
                  rw [HN.out.1, HN.out.2.1, HN.out.2.2]
                have hands : (out.take q).map (fun g : Int => renAnd M (C.ands.getD g.toNat (0, 0, 0))) ++ C.ands.drop q = out.map (fun g => renAnd M (C.ands.getD g.toNat (0, 0, 0))) := by
                  rw [List.take_of_length_le (by omega), List.drop_eq_nil_of_le (by omega), List.append_nil]
                have hne1' : w2.heap.size ≠ w.heap.size + 1 := hne1
                have hgm9 : gm ≠ w.heap.size + 1 := Blk.ne_ hst.nums (show Blk wr (w.heap.size + 1) _ _ from HRES.out) (by decide)
                have hw2 : w.heap.size + 1 < w2.heap.size := by have := HS0.out; have := HB1.out.size; have := HB12.out.size; omega
                have hgm0 := HGM.out
                have hgmw : w.heap.size ≤ gm := by have := HS0.out; have := HB1.out.size; omega
                have hnum9 : Nums wq.drew gm M := (HO9.out gm hgm9).trans hst.nums
                have hml : (newM C out).length = m.toNat + 1 := by rw [newM_len, HMM.out]
                have hown : wq.drew.ownsRow w.heap.size 3 1 (.slice (some ⟨gm, 0, none⟩) (m.toNat + 1) (m.toNat + 1)) (newM C out).length ((newM C out).map (Value.int .i64)) := by
                  rw [← HM.out.1] at hnum9
                  have := nums_own (B := w.heap.size) hnum9 hgmw (by rw [hml]; simp only [maxLen]; omega)
                  rw [hml] at this ⊢
                  exact this
                exact ⟨HB9.out.drew, ⟨.slice Bi C.inputs.length di, .slice Bl C.latches.length dl, .slice Bo C.outputs.length do_, .slice Bb C.bads.length db, .slice Bc C.constraints.length dc, .slice Bj us.length dj, .slice Bf C.fairness.length df, .slice Ba C.ands.length da, .slice Bs C.symbols.length ds, .slice Bt C.comments.length dt⟩, us, .slice (some ⟨gm, 0, none⟩) (m.toNat + 1) (m.toNat + 1), out, w2.heap.size, by rw [hmx]; rfl, HG1.out, by have := HN.out.2.2; omega,
                  ⟨by omega, ren_cop (w2 := w2) hst HM.out.1 rfl hands rfl rfl HR0.out HXX.out.2.2.2.2.1.ul (by omega) (fun g hg => HO9.out g (by omega)), fun g hg => by rw [← (show gm = g by simpa [Value.ownBlock] using hg)]; omega⟩, hown⟩
/-- The same with the base of all lists. -/
theorem Renumber_ok (w : World) (V : CV) (C : Circ) (h : C.In w V) (ok : C.Ok) (rm : C.Room) (hz : (checkR C).2 = 0) :
    Calls Try.prog 31 #[V.val C.max] w fun e w' => Below w.heap.size w w' ∧ ∃ V' us vm out, e = .returned (.tuple #[CV.val V' (renC C out).max, vm, .int .i64 0]) ∧ Greedy (usesC C) out ∧ out.length = C.ands.length ∧
      Cop w' w.heap.size V' us (renC C out) ∧ w'.ownsRow w.heap.size 3 1 vm (newM C out).length ((newM C out).map (Value.int .i64)) := by
  refine (Renumber_ok2 w V C h ok rm hz).mono ?_
  rintro e w' ⟨hb, V', us, vm, out, B', he, hg, hl, ⟨h1, h2, _⟩, ho⟩
  exact ⟨hb, V', us, vm, out, he, hg, hl, h2.base h1, ho⟩
end Go.Proofs.Ytdladffjenfikaa

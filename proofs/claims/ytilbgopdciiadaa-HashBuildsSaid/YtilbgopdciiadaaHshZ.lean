/- Hash: the document's own Build: the circuit built anew and the map. -/
import Derived.Test.YtilbgopdciiadaaHshY
import Derived.Test.YtilbgopdciiadaaTrnF
import Derived.StillTailTactics
namespace Go.Proofs.Ytilbgopdciiadaa
open Go.RowKit Go.Maps

theorem sl_formH {E : Type} {k : Nat} {enc : E → List Value} {w : World} {v : Value} {zs : List E} (h : RowE k enc w v zs) : ∃ A n c, v = .slice A n c := by
  obtain ⟨A, c, e, _⟩ := h
  exact ⟨A, _, c, e⟩
theorem build_bld (a b : Int) (w : World) : (Instr.build 145 #[(0, .int .i64 a), (1, .int .i64 b)]).run Try.prog w = .ok (.agg #[.int .i64 a, .int .i64 b, .slice none 0 0]) w := run_build w _ _ _ (by kernel_rfl)
/-- A latch after the second loop; after the fourth. -/
def latA (M : List Int) (z : Tri) : Tri := (mvX M z.1, z.2.1, z.2.2)
def latB (M : List Int) (z : Tri) : Tri := (mvX M z.1, mvX M z.2.1, mvX M z.2.2)
theorem latMid {zs : List Tri} {k : Nat} {z : Tri} (h : zs[k]? = some z) (f : Tri → Tri) (g : Tri → Tri) : ((zs.take k).map f ++ (zs.drop k).map g)[k]? = some (g z) ∧ ((zs.take k).map f ++ (zs.drop k).map g).set k (f z) = (zs.take (k + 1)).map f ++ (zs.drop (k + 1)).map g := by
  have hk := (List.getElem?_eq_some_iff.1 h).1
  have hl : ((zs.take k).map f).length = k := by simp; omega
  have hd : zs.drop k = z :: zs.drop (k + 1) := by
    rw [List.drop_eq_getElem_cons hk]
    congr 1
    exact (List.getElem?_eq_some_iff.1 h).2
  have ht : zs.take (k + 1) = zs.take k ++ [z] := by rw [List.take_add_one, h]; rfl
  refine ⟨?_, ?_⟩
  · rw [List.getElem?_append_right (by omega), hl, hd]
    simp
  · rw [hd, ht, List.set_append_right _ _ (by omega), hl, Nat.sub_self, List.map_cons, List.set_cons_zero, List.map_append]
    simp
theorem inMid {zs : List Int} {k : Nat} {z : Int} (h : zs[k]? = some z) (f : Int → Int) : ((zs.take k).map f ++ zs.drop k).set k (f z) = (zs.take (k + 1)).map f ++ zs.drop (k + 1) := by
  have hk := (List.getElem?_eq_some_iff.1 h).1
  have hl : ((zs.take k).map f).length = k := by simp; omega
  have hd : zs.drop k = z :: zs.drop (k + 1) := by
    rw [List.drop_eq_getElem_cons hk]
    congr 1
    exact (List.getElem?_eq_some_iff.1 h).2
  have ht : zs.take (k + 1) = zs.take k ++ [z] := by rw [List.take_add_one, h]; rfl
  rw [hd, ht, List.set_append_right _ _ (by omega), hl, Nat.sub_self, List.set_cons_zero, List.map_append]
  simp

theorem cell_heapH {w w' : World} {p : Addr} (h : w'.heap[p.block]? = w.heap[p.block]?) : w'.cell? p = w.cell? p := by
  unfold World.cell?
  rw [h]
theorem cell_belowH {w w' : World} {p : Addr} {v : Value} (h : w.cell? p = some v) (hb : Below w.heap.size w w') : w'.cell? p = some v := (hb.cell (p := p) (World.block_lt_of_cell? w p h)).trans h

set_option maxHeartbeats 20000000 in
set_option maxRecDepth 100000 in
theorem rBuild0_any (w : World) (V : CV) (C : Circ) (gv : Value) (O : List Int) (h : C.In w V) (hgv : RowE 1 encI w gv O) (rm : C.Room) (hz : (checkR C).2 = 0) (hO : IsOrd C O) :
    Calls Try.prog 40 #[V.val C.max, gv] w fun e w' => Below w.heap.size w w' ∧ ∃ V' us g, e = .returned (.tuple #[CV.val V' (bldX C O).max, .slice (some ⟨g, 0, none⟩) (C.max.toNat + 1) (C.max.toNat + 1)]) ∧
      w.heap.size ≤ g ∧ CopB w' w.heap.size (bldX C O) us V' ∧ Nums w' g (bldM C O) := by
  have HRT := Lib.hid (right_of hz)
  have HFI := Lib.hid (fine_of hz)
  have HRM := Lib.hid rm
  have HO := Lib.hid hO
  have HTI := Lib.hid (tellI_of (fine_of hz) hO)
  have HHD := Lib.hid (fun (k : Nat) (l : Int) (hk : (C.inputs ++ C.latches.map (·.1))[k]? = some l) => bldM_head (fine_of hz) hO hk)
  have HM0 := Lib.hid (bldM_zero (fine_of hz) hO)
  obtain ⟨MM, hMM⟩ : ∃ MM, bldM C O = MM := ⟨_, rfl⟩
  rw [hMM] at HTI HHD HM0
  have HMB := Lib.hid hMM
  have HDL := Lib.hid (defs_le (fine_of hz) hO)
  obtain ⟨AI, cI, eI, _, _, hrI⟩ := h.i
  obtain ⟨AL, cL, eL, _, _, hrL⟩ := h.l
  obtain ⟨AA, cA, eA, _, _, hrA⟩ := h.a
  obtain ⟨AJ, cJ, eJ, hjl, hrJ⟩ := h.j.at_
  obtain ⟨AG, cG, eG, _, _, hrG⟩ := hgv
  obtain ⟨Vi, Vl, Vo, Vb, Vc, Vj, Vf, Va, Vs, Vt⟩ := V
  simp only at eI eL eA eJ
  subst eI eL eA eJ eG
  have hm0 := HRT.out.m0
  have hm1 := HRT.out.m1
  obtain ⟨m, hmm⟩ : ∃ m : Nat, C.max = (m : Int) := ⟨C.max.toNat, by omega⟩
  have HMM := Lib.hid hmm
  obtain ⟨nI, hnI⟩ : ∃ n, C.inputs.length = n := ⟨_, rfl⟩
  obtain ⟨nL, hnL⟩ : ∃ n, C.latches.length = n := ⟨_, rfl⟩
  obtain ⟨nA, hnA⟩ : ∃ n, C.ands.length = n := ⟨_, rfl⟩
  obtain ⟨nJ, hnJ⟩ : ∃ n, C.justice.length = n := ⟨_, rfl⟩
  have hlo : O.length = nA := hO.l.trans hnA
  have HNI := Lib.hid hnI
  have HNL := Lib.hid hnL
  have HNA := Lib.hid hnA
  have HNJ := Lib.hid hnJ
  have HLO := Lib.hid hlo
  have hni : nI ≤ 16384 := by rw [← hnI]; exact HRT.out.ni
  have hnl : nL ≤ 16384 := by rw [← hnL]; exact HRT.out.nl
  have hna : nA ≤ 16384 := by rw [← hnA]; exact HRT.out.na
  have hnj : nJ ≤ 16384 := by rw [← hnJ]; exact HRT.out.nj
  rw [hmm] at hm1 ⊢
  rw [hnI] at h ⊢
  rw [hnL, hnA, hnJ] at h ⊢
  rw [hlo]
  have hm2 : m ≤ 16384 := by omega
  rw [show ((m : Int)).toNat = m by omega]
  have HRI := Lib.hid hrI
  have HRL := Lib.hid hrL
  have HRA := Lib.hid hrA
  have HRJ := Lib.hid hrJ
  have HRG := Lib.hid hrG
  obtain ⟨CS, hCS⟩ : ∃ CS : Array Value, #[.int .i64 (m : Int), .slice AI nI cI, .slice AL nL cL, Vo, Vb, Vc, .slice AJ nJ cJ, Vf, .slice AA nA cA, Vs, Vt] = CS := ⟨_, rfl⟩
  have HCS := Lib.hid hCS
  dsimp only [CV.val, CV.cells]
  rw [hCS]
  obtain ⟨W0, hW0⟩ : ∃ W0, (w.alloc (.cells CS 29)).alloc (.cells #[.int .i64 0, .slice none 0 0, .slice none 0 0, .slice none 0 0, .slice none 0 0, .slice none 0 0, .slice none 0 0, .slice none 0 0, .slice none 0 0, .slice none 0 0, .slice none 0 0] 29) = W0 := ⟨_, rfl⟩
  have HB0 : Hid (Below w.heap.size w W0) := Lib.hid (by rw [← hW0]; exact ((Below.refl w.heap.size w).alloc (Nat.le_refl _) _).alloc (by simp) _)
  have HS0 : Hid (W0.heap.size = w.heap.size + 1 + 1) := Lib.hid (by rw [← hW0]; simp)
  have HALL : Hid (∀ wz, Below W0.heap.size W0 wz → wz.heap[w.heap.size]? = some (.cells CS 29 (0, 0)) ∧ (wz.cell? ⟨w.heap.size, 0, none⟩ = some (.int .i64 (m : Int)) ∧ wz.cell? ⟨w.heap.size, 1, none⟩ = some (.slice AI nI cI) ∧ wz.cell? ⟨w.heap.size, 2, none⟩ = some (.slice AL nL cL) ∧ wz.cell? ⟨w.heap.size, 6, none⟩ = some (.slice AJ nJ cJ) ∧ wz.cell? ⟨w.heap.size, 8, none⟩ = some (.slice AA nA cA)) ∧ (wz.cell? ⟨w.heap.size, 3, none⟩ = some Vo ∧ wz.cell? ⟨w.heap.size, 4, none⟩ = some Vb ∧ wz.cell? ⟨w.heap.size, 5, none⟩ = some Vc ∧ wz.cell? ⟨w.heap.size, 7, none⟩ = some Vf) ∧ C.In wz ⟨.slice AI nI cI, .slice AL nL cL, Vo, Vb, Vc, .slice AJ nJ cJ, Vf, .slice AA nA cA, Vs, Vt⟩ ∧ Blk wz (w.heap.size + 1) 29 #[.int .i64 0, .slice none 0 0, .slice none 0 0, .slice none 0 0, .slice none 0 0, .slice none 0 0, .slice none 0 0, .slice none 0 0, .slice none 0 0, .slice none 0 0, .slice none 0 0] ∧ Below w.heap.size w wz) := Lib.hid (fun wz hb => by
    have h1 : Blk W0 w.heap.size 29 CS := by rw [← hW0]; exact (Blk.new w _ _).alloc _
    have h2 : Blk W0 (w.heap.size + 1) 29 #[.int .i64 0, .slice none 0 0, .slice none 0 0, .slice none 0 0, .slice none 0 0, .slice none 0 0, .slice none 0 0, .slice none 0 0, .slice none 0 0, .slice none 0 0, .slice none 0 0] := by
      rw [← hW0]
      have := Blk.new (w.alloc (.cells CS 29)) 29 #[.int .i64 0, .slice none 0 0, .slice none 0 0, .slice none 0 0, .slice none 0 0, .slice none 0 0, .slice none 0 0, .slice none 0 0, .slice none 0 0, .slice none 0 0, .slice none 0 0]
      simpa using this
    have h3 := h1.below hb h1.lt
    have h4 := h3
    rw [← HCS.out] at h4
    obtain ⟨c0, c1, c2, c3, c4, c5, c6, c7, c8, c9, c10⟩ := rbox_of h4
    exact ⟨h3, ⟨c0, c1, c2, c6, c8⟩, ⟨c3, c4, c5, c7⟩, (h.below HB0.out).below hb, h2.below hb h2.lt, HB0.out.trans (hb.mono HB0.out.size)⟩)
  obtain ⟨W1, hW1⟩ : ∃ W1, W0.alloc (.cells #[.int .i64 (nI : Int), .int .i64 (nL : Int), .slice none 0 0] 145) = W1 := ⟨_, rfl⟩
  obtain ⟨W2, hW2⟩ : ∃ W2, W1.alloc (.cells (madeCells #[Value.int .i64 0] (m + 1)) 3) = W2 := ⟨_, rfl⟩
  have HB1 : Hid (Below W0.heap.size W0 W1) := Lib.hid (by rw [← hW1]; exact (Below.refl _ _).alloc (Nat.le_refl _) _)
  have HB2 : Hid (Below W1.heap.size W1 W2) := Lib.hid (by rw [← hW2]; exact (Below.refl _ _).alloc (Nat.le_refl _) _)
  have HS1 : Hid (W1.heap.size = W0.heap.size + 1) := Lib.hid (by rw [← hW1]; simp)
  have HS2 : Hid (W2.heap.size = W1.heap.size + 1) := Lib.hid (by rw [← hW2]; simp)
  have HBL : Hid (∀ wz, Below W1.heap.size W1 wz → HR wz W0.heap.size (bd0 C) (FootR W0.heap.size (.slice none 0 0))) := Lib.hid (fun wz hb => by
    have h1 : Blk W1 W0.heap.size 145 #[.int .i64 (nI : Int), .int .i64 (nL : Int), .slice none 0 0] := by rw [← hW1]; exact Blk.new W0 _ _
    have h2 := h1.below hb h1.lt
    rw [← HNI.out, ← HNL.out] at h2
    refine ⟨_, ⟨h2, ⟨rfl, .inl ⟨rfl, rfl⟩⟩, ?_⟩, rfl⟩
    have := tell0_i HFI.out HO.out
    exact this.ok)
  have HNM : Hid (Nums W2 W1.heap.size (List.replicate (m + 1) 0)) := Lib.hid (by rw [← hW2]; exact new_ints W1 (m + 1))
  have HCP := Lib.hid (fun (wx : World) (hx : C.In wx ⟨.slice AI nI cI, .slice AL nL cL, Vo, Vb, Vc, .slice AJ nJ cJ, Vf, .slice AA nA cA, Vs, Vt⟩) => CopyCircuit_any wx _ C hx HRM.out)
  rw [hmm] at HCP
  dsimp only [CV.val, CV.cells] at HCP
  rw [hCS] at HCP
  have HW0 := Lib.hid hW0
  have HW1 := Lib.hid hW1
  have HW2 := Lib.hid hW2
  have hmk := make_ints (m + 1) (by omega)
  push_cast at hmk
  have hw1 : IntKind.i64.wrap ((m : Int) + 1) = (m : Int) + 1 := by simp [IntKind.wrap, IntKind.bits, IntKind.signed]; omega
  have HC0 := Lib.hid (HALL.out W0 (Below.refl _ _))
  have HC1 := Lib.hid (HALL.out W1 HB1.out)
  have HC2 := Lib.hid (HALL.out W2 (bt HB1.out (Nat.le_refl _) HB2.out))
  have HBB := Lib.hid (build_bld (nI : Int) (nL : Int))
  clear h rm hz hO hmm hnI hnL hnA hnJ hlo hrI hrL hrA hrJ hrG hjl hm0 hm1 hCS hW0 hW1 hW2 hMM
  go_enter Try.func40, Try.ntmps40
  go_upto_region 1 with (fail)
  rw [HW0.out]
  obtain ⟨c0, c1, c2, c6, c8⟩ := HC0.out.2.1
  have hbb := HBB.out
  go_upto_region 2 with (fail)
  rw [HW1.out]
  clear c0 c1 c2 c6 c8 hbb
  obtain ⟨c0, c1, c2, c6, c8⟩ := HC1.out.2.1
  go_upto_region 3 with (fail)
  rw [HW2.out]
  clear c0 c1 c2 c6 c8
  go_upto_region 4 with (first
    | (refine wpList_load_row rfl 29 (.tmp 2) rfl w.heap.size rfl 29 CS (0, 0) _ HC2.out.1 Try.underlying29 rfl (by rw [← HCS.out]; kernel_rfl) ?_)
    | (go_at_call 34; refine (HCP.out _ HC2.out.2.2.2.1).mono ?_; rintro e w3 ⟨U, us, rfl, hb3, hcp⟩; obtain ⟨Ui, Ul, Uo, Ub, Uc, Uj, Uf, Ua, Us, Ut⟩ := U; obtain ⟨A0, k0, hf0⟩ := own_slice_k hcp.i; rw [HNI.out] at hf0; simp only at hf0; subst hf0; obtain ⟨A1, k1, hf1⟩ := own_slice_k hcp.l; rw [HNL.out] at hf1; simp only at hf1; subst hf1; obtain ⟨A2, n2, k2, hf2⟩ := sl_formH hcp.in_.o; simp only at hf2; subst hf2; obtain ⟨A3, n3, k3, hf3⟩ := sl_formH hcp.in_.b; simp only at hf3; subst hf3; obtain ⟨A4, n4, k4, hf4⟩ := sl_formH hcp.in_.c; simp only at hf4; subst hf4; obtain ⟨A5, k5, hf5⟩ := own_slice_k hcp.j.own; rw [hcp.j.ul, HNJ.out] at hf5; simp only at hf5; subst hf5; obtain ⟨A6, n6, k6, hf6⟩ := sl_formH hcp.in_.f; simp only at hf6; subst hf6; obtain ⟨A7, k7, hf7⟩ := own_slice_k hcp.a; rw [HNA.out] at hf7; simp only at hf7; subst hf7; obtain ⟨A8, n8, k8, hf8⟩ := sl_formH hcp.in_.s; simp only at hf8; subst hf8; obtain ⟨A9, n9, k9, hf9⟩ := sl_formH hcp.in_.t; simp only at hf9; subst hf9; have HB3 := Lib.hid hb3; have HCB := Lib.hid hcp; clear hb3 hcp))
  have hz1 := HS1.out
  have hz2 := HS2.out
  have hz3 := HB3.out.size
  obtain ⟨OUT, hOUT⟩ : ∃ OUT : Array Value, #[.int .i64 (m : Int), .slice A0 nI k0, .slice A1 nL k1, .slice A2 n2 k2, .slice A3 n3 k3, .slice A4 n4 k4, .slice A5 nJ k5, .slice A6 n6 k6, .slice A7 nA k7, .slice A8 n8 k8, .slice A9 n9 k9] = OUT := ⟨_, rfl⟩
  rw [hOUT]
  obtain ⟨UV, hUV⟩ : ∃ UV : CV, ⟨.slice A0 nI k0, .slice A1 nL k1, .slice A2 n2 k2, .slice A3 n3 k3, .slice A4 n4 k4, .slice A5 nJ k5, .slice A6 n6 k6, .slice A7 nA k7, .slice A8 n8 k8, .slice A9 n9 k9⟩ = UV := ⟨_, rfl⟩
  obtain ⟨X, hX⟩ : ∃ X, w3.alloc (.cells OUT 29) = X := ⟨_, rfl⟩
  rw [hX]
  have HBS : Hid (B0 W0 X W2.heap.size W1.heap.size w3.heap.size W0.heap.size OUT (bd0 C) (List.replicate (m + 1) 0) UV C.inputs C.latches C us) := Lib.hid (by
    have hc := HCB.out
    have hi := hc.i
    rw [flat_ints] at hi
    have hbx : Below w3.heap.size w3 X := by rw [← hX]; exact (Below.refl _ _).alloc (Nat.le_refl _) _
    have h12 := bt HB1.out (Nat.le_refl _) HB2.out
    have h13 := bt h12 (Nat.le_refl _) HB3.out
    have h1X := bt h13 (Nat.le_refl _) hbx
    have hr : RR W0 X W2.heap.size W1.heap.size w3.heap.size OUT (List.replicate (m + 1) 0) UV C.inputs C.latches C.ands C us := by
      rw [← hUV]
      refine ⟨h1X, by omega, by omega, hz3, ?_, by rw [← hX]; exact Blk.new _ _ _, own_below hi hbx, own_below hc.l hbx, own_below hc.a hbx, own_below hc.j.own hbx, own_below hc.s hbx, own_below hc.t hbx⟩
      exact Blk.below (Blk.below HNM.out HB3.out (Blk.lt HNM.out)) hbx (by have := Blk.lt HNM.out; omega)
    refine ⟨hr, _, HBL.out X (bt HB2.out (Nat.le_refl _) (bt HB3.out (Nat.le_refl _) hbx)), fun k hk => ?_⟩
    have e : k = W0.heap.size := by
      rcases hk with e | e
      · exact e
      · cases e
    subst e
    refine ⟨Nat.le_refl _, by omega, by omega, ?_, ?_, ?_, ?_, ?_, ?_⟩
    · intro e; have := (hr.i.lt _ e).1; omega
    · intro e; have := (hr.l.lt _ e).1; omega
    · intro e; have := (hr.a.lt _ e).1; omega
    · intro e; have := (hr.j.lt _ e).1; omega
    · intro e; have := (hr.s.lt _ e).1; omega
    · intro e; have := (hr.t.lt _ e).1; omega)
  have HUL : Hid (us.length = nJ) := Lib.hid (by have := HCB.out.j.ul; rw [HNJ.out] at this; exact this)
  have HOC : Hid (∀ wz, Blk wz w3.heap.size 29 OUT → wz.cell? ⟨w3.heap.size, 1, none⟩ = some (.slice A0 nI k0) ∧ wz.cell? ⟨w3.heap.size, 2, none⟩ = some (.slice A1 nL k1)) := Lib.hid (fun wz hb => by
    rw [← hOUT] at hb
    obtain ⟨d0, d1, d2, d3, d4, d5, d6, d7, d8, d9, d10⟩ := rbox_of hb
    exact ⟨d1, d2⟩)
  have HOU := Lib.hid hOUT
  have HUV := Lib.hid hUV
  have HVi : Hid (UV.i = .slice A0 nI k0 ∧ UV.l = .slice A1 nL k1 ∧ UV.j = .slice A5 nJ k5) := Lib.hid (by rw [← hUV]; exact ⟨rfl, rfl, rfl⟩)
  have HSZ : Hid (W0.heap.size = w.heap.size + 1 + 1 ∧ W1.heap.size = W0.heap.size + 1 ∧ W2.heap.size = W1.heap.size + 1 ∧ W2.heap.size ≤ w3.heap.size) := Lib.hid ⟨HS0.out, hz1, hz2, hz3⟩
  have HML : Hid (∀ L : List Int, (numF L (0, List.replicate (m + 1) 0)).2.length = m + 1) := Lib.hid (fun L => by rw [(numF_len _ _).1]; simp)
  clear hz1 hz2 hz3 hOUT hUV hX HCB HCP HBL HNM HS0 HS1 HS2 HB1 HB2 HB3 HC0 HC1 HC2 hmk hw1 HBB
  obtain ⟨Bc, hBc⟩ : ∃ Bc, W2.heap.size = Bc := ⟨_, rfl⟩
  obtain ⟨gm, hgm⟩ : ∃ gm, W1.heap.size = gm := ⟨_, rfl⟩
  obtain ⟨bo, hbo⟩ : ∃ bo, w3.heap.size = bo := ⟨_, rfl⟩
  obtain ⟨cx, hcx⟩ : ∃ cx, W0.heap.size = cx := ⟨_, rfl⟩
  rw [hBc, hgm, hbo, hcx] at HBS
  rw [hBc, hgm, hbo, hcx] at HSZ
  rw [hbo] at HOC
  rw [hgm, hbo, hcx]
  have HCX := Lib.hid hcx
  clear hBc hgm hbo hcx
  go_wp2
  go_loopg [9] nI (fun j iv wx => ∃ k : Nat, k ≤ nI ∧ j = nI - k ∧ iv = .int .i64 k ∧ B0 W0 wx Bc gm bo cx OUT (bd0 C) (numF (C.inputs.take k) (0, List.replicate (m + 1) 0)).2 UV ((C.inputs.take k).map (mvX MM) ++ C.inputs.drop k) C.latches C us)
  case atStart => exact ⟨0, Nat.zero_le _, rfl, rfl, HBS.out⟩
  case round =>
    obtain ⟨k, hk, hgk, rfl, ht⟩ := hrel
    subst hgk
    have HT := Lib.hid ht
    clear ht HBS
    have HA := Lib.hid (HALL.out _ HT.out.rr.below)
    obtain ⟨c0, c1, c2, c6, c8⟩ := HA.out.2.1
    by_cases hlt : k < nI
    · obtain ⟨x, hx⟩ : ∃ x, C.inputs[k]? = some x := ⟨_, List.getElem?_eq_getElem (by rw [HNI.out]; exact hlt)⟩
      obtain ⟨ib, off, e, hib, hcell⟩ := HRI.out k x hx
      subst e
      obtain ⟨p1, p2⟩ := HRT.out.i x (List.mem_of_getElem? hx)
      rw [HMM.out] at p2
      obtain ⟨WD, hWD⟩ : ∃ WD, wr.drew = WD := ⟨_, rfl⟩
      have HWD := Lib.hid hWD
      have hTD := HT.out.drew
      rw [hWD] at hTD
      have HTD := Lib.hid hTD
      obtain ⟨F1, f1, f2⟩ := HTD.out.bld
      have HINP := Lib.hid (rInput_any WD cx (bd0 C) F1 (k : Int) f1)
      rw [show (bd0 C).i = nI from HNI.out, inE_at hlt] at HINP
      have hIl : ((C.inputs.take k).map (mvX MM) ++ C.inputs.drop k).length = nI := by rw [List.length_append, List.length_map, List.length_take, List.length_drop, HNI.out]; omega
      obtain ⟨gi, capi, hvi, hBi, _, _, hgil, hci, hfi, _⟩ := own_cells HTD.out.rr.i (by rw [hIl]; omega)
      rw [HVi.out.1] at hvi
      injection hvi with e1 e2 e3
      subst e1 e3
      clear e2
      rw [hIl] at hci
      have ci := hci k hlt
      have fi := hfi k
      have hmv : mvX MM x = 2 * (k : Int) + 2 := by
        have := HHD.out k x (by rw [List.getElem?_append_left (by rw [HNI.out]; exact hlt)]; exact hx)
        omega
      have hN1 := HTD.out.setI (q := k) HVi.out.1 (by rw [hIl]; exact hlt) (mvX MM x)
      rw [inMid hx (mvX MM), hmv] at hN1
      have HN1 := Lib.hid hN1
      have HHE := Lib.hid (HOC.out _ HTD.out.rr.box).1
      have HHE2 := Lib.hid (HOC.out _ HN1.out.rr.box).1
      have hk0 : (0 : Int) ≤ (k : Int) := by omega
      have hk1 : (k : Int) < (nI : Int) := by omega
      have HX := Lib.hid hx
      have HIC := Lib.hid (And.intro hib (hcell 0 _ rfl))
      clear hx hcell f1 f2 hib hWD hTD hci hfi hN1 hIl hBi
      go_upto_region 7 with (fail)
      refine wp_region_T (by kernel_rfl) (fun w' => w'.cell? ⟨bo, 1, none⟩ = some (.slice (some ⟨gi, 0, none⟩) nI k0)) 11 ?_
      rw [HWD.out]
      have hHeld := HHE.out
      clear c0 c1 c2 c6 c8
      refine wpAnyT_take (i := 0) (v := ?v0r7q1) rfl (by kernel_rfl) (fun _ _ _ h => h) (by rfl) hHeld ?h0r7q1 ?_
      case h0r7q1 => (intro w' hSw; (try dsimp only at hSw); go_simp; try with_reducible rfl)
      (try simp only [Act.put, List.setIfInBounds_toArray])
      refine wpAnyT_take (i := 1) (v := ?v1r7q1) rfl (by kernel_rfl) (fun _ _ _ h => h) (by rfl) hHeld ?h1r7q1 ?_
      case h1r7q1 => (intro w' hSw; (try dsimp only at hSw); go_simp; try with_reducible rfl)
      (try simp only [Act.put])
      refine wpAnyT_take (i := 2) (v := ?v2r7q1) rfl (by kernel_rfl) (fun _ _ _ h => h) (by rfl) hHeld ?h2r7q1 ?_
      case h2r7q1 => (intro w' hSw; (try dsimp only at hSw); go_simp; try with_reducible rfl)
      (try simp only [Act.put])
      refine wpAnyT_take (i := 3) (v := ?v3r7q1) rfl (by kernel_rfl) (fun _ _ _ h => h) (by rfl) hHeld ?h3r7q1 ?_
      case h3r7q1 => (intro w' hSw; (try dsimp only at hSw); go_simp; try with_reducible rfl)
      (try simp only [Act.put])
      refine wpAnyT_take (i := 4) (v := ?v4r7q1) rfl (by kernel_rfl) (fun _ _ _ h => h) (by rfl) hHeld ?h4r7q1 ?_
      case h4r7q1 => (intro w' hSw; (try dsimp only at hSw); go_simp; try with_reducible rfl)
      (try simp only [Act.put])
      refine wpAnyT_one (i := 5) rfl (by kernel_rfl) (fun K hK => ?_)
      go_simp
      go_at_call 94
      refine HINP.out.mono ?_
      rintro e w5 ⟨rfl, hw5⟩
      rw [hw5]
      clear hw5 w5
      refine hK.out _ _ (fun _ => hHeld) ?_
      clear hK K
      (try simp only)
      refine wpAnyT_take (i := 6) (v := ?v6r7q2) rfl (by kernel_rfl) (fun _ _ _ h => h) (by rfl) hHeld ?h6r7q2 ?_
      case h6r7q2 => (intro w' hSw; (try dsimp only at hSw); go_simp; try with_reducible rfl)
      (try simp only [Act.put, List.setIfInBounds_toArray])
      refine wpAnyT_take (i := 7) (v := ?v7r7q2) rfl (by kernel_rfl) (fun _ _ _ h => h) (by rfl) hHeld ?h7r7q2 ?_
      case h7r7q2 => (intro w' hSw; (try dsimp only at hSw); go_simp; try with_reducible rfl)
      (try simp only [Act.put])
      refine wpAnyT_take (i := 8) (v := ?v8r7q2) rfl (by kernel_rfl) (fun _ _ _ h => h) (by rfl) hHeld ?h8r7q2 ?_
      case h8r7q2 => (intro w' hSw; (try dsimp only at hSw); go_simp; try with_reducible rfl)
      (try simp only [Act.put])
      refine wpAnyT_take (i := 9) (v := ?v9r7q2) rfl (by kernel_rfl) (fun _ _ _ h => h) (by rfl) hHeld ?h9r7q2 ?_
      case h9r7q2 => (intro w' hSw; (try dsimp only at hSw); go_simp; try with_reducible rfl)
      (try simp only [Act.put])
      clear hHeld
      refine wpAnyT_one (i := 10) rfl (by kernel_rfl) (fun K hK => ?_)
      go_simp
      refine hK.out _ _ (fun _ => HHE2.out) ?_
      clear hK K
      (try simp only [Act.put, List.setIfInBounds_toArray, List.set_cons_zero, List.set_cons_succ])
      refine wpAnyT_done (by kernel_rfl) ?_
      obtain ⟨W5, hW5⟩ : ∃ W5, WD.setCell ⟨gi, k, none⟩ (.int .i64 (2 * (k : Int) + 2)) = W5 := ⟨_, rfl⟩
      rw [hW5] at HN1
      rw [hW5]
      clear HHE HHE2 ci fi hW5
      have HA5 := Lib.hid (HALL.out _ HN1.out.rr.below)
      obtain ⟨c0, c1, c2, c6, c8⟩ := HA5.out.2.1
      have d1 := (HOC.out _ HN1.out.rr.box).1
      have i0 := (HA5.out.2.2.2.2.2.cell (p := ⟨ib, off + (k * 1 + 0), none⟩) HIC.out.1).trans HIC.out.2
      simp only [Nat.mul_one, Nat.add_zero] at i0
      have hIl2 : ((C.inputs.take (k + 1)).map (mvX MM) ++ C.inputs.drop (k + 1)).length = nI := by rw [List.length_append, List.length_map, List.length_take, List.length_drop, HNI.out]; omega
      obtain ⟨gi', capi', hvi', _, _, _, _, hci, _, _⟩ := own_cells HN1.out.rr.i (by rw [hIl2]; omega)
      rw [HVi.out.1] at hvi'
      injection hvi' with e1 e2 e3
      injection e1 with e1
      injection e1 with e1
      subst e1
      clear e2 e3
      rw [hIl2] at hci
      have ci := hci k hlt
      have hgt : ((C.inputs.take (k + 1)).map (mvX MM) ++ C.inputs.drop (k + 1)).getD k 0 = 2 * (k : Int) + 2 := by
        have ht : C.inputs.take (k + 1) = C.inputs.take k ++ [x] := by rw [List.take_add_one, HX.out]; rfl
        have hl : ((C.inputs.take k).map (mvX MM)).length = k := by rw [List.length_map, List.length_take, HNI.out]; omega
        rw [List.getD_eq_getElem?_getD, ht, List.map_append, List.append_assoc, List.getElem?_append_right (by omega), hl, Nat.sub_self]
        simpa using hmv
      rw [hgt] at ci
      obtain ⟨y, hy⟩ : ∃ y, (numF (C.inputs.take k) (0, List.replicate (m + 1) 0)).2[(x / 2).toNat]? = some y := ⟨_, List.getElem?_eq_getElem (by rw [HML.out]; omega)⟩
      have HCM := Lib.hid (And.intro (Nums.cell HN1.out.drew.rr.nums hy) (And.intro (Blk.frozen HN1.out.drew.rr.nums (x / 2).toNat) (Blk.lt HN1.out.drew.rr.nums)))
      have hq := tdiv_nn (a := x) (b := 2) (by omega)
      have hqw : IntKind.i64.wrap (x / 2) = x / 2 := i64_small (by omega) (by omega)
      have hq0 : (0 : Int) ≤ x / 2 := by omega
      have hq1 : x / 2 < (m : Int) + 1 := by omega
      have HN2 := Lib.hid (HN1.out.drew.setM (x / 2).toNat (2 * (k : Int) + 2))
      have hM2 : (numF (C.inputs.take (k + 1)) (0, List.replicate (m + 1) 0)).2 = (numF (C.inputs.take k) (0, List.replicate (m + 1) 0)).2.set (x / 2).toNat (2 * (k : Int) + 2) := by
        rw [List.take_add_one, HX.out]
        have := numF_appH (C.inputs.take k) x (m + 1)
        rw [List.length_take, HNI.out, Nat.min_eq_left hk] at this
        simpa using this
      rw [← hM2] at HN2
      clear hy hM2 hci hgt hIl2 hmv
      go_upto_region 8 with (fail)
      go_still_tail 13, (by kernel_rfl)
      change wpList _ _ _ _ _ W5.drew
      obtain ⟨cm, fm, lm⟩ := HCM.out
      generalize W5.drew = w6 at *
      go_wp2
      go_roundg (nI - (k + 1))
      case measure => omega
      case rel => exact ⟨k + 1, by omega, rfl, by go_num, HN2.out⟩
    · have hke : nI = k := by omega
      have HE : Hid (B0 W0 wr Bc gm bo cx OUT (bd0 C) (numF C.inputs (0, List.replicate (m + 1) 0)).2 UV (C.inputs.map (mvX MM)) C.latches C us) := Lib.hid (by
        have := HT.out
        rwa [List.take_of_length_le (by rw [HNI.out, hke]; exact Nat.le_refl _), List.drop_eq_nil_of_le (by rw [HNI.out, hke]; exact Nat.le_refl _), List.append_nil] at this)
      have hk1 : ¬ (k : Int) < (nI : Int) := by omega
      clear HT hke HA
      go_wp2
      clear c0 c1 c2 c6 c8
      go_loopg [10] nL (fun j iv wx => ∃ k : Nat, k ≤ nL ∧ j = nL - k ∧ iv = .int .i64 k ∧ B0 W0 wx Bc gm bo cx OUT (bd0 C) (numF (C.inputs ++ (C.latches.map (·.1)).take k) (0, List.replicate (m + 1) 0)).2 UV (C.inputs.map (mvX MM)) ((C.latches.take k).map (latA MM) ++ (C.latches.drop k).map id) C us)
      case atStart => exact ⟨0, Nat.zero_le _, rfl, rfl, by simpa using HE.out⟩
      case round =>
        obtain ⟨k, hk, hgk, rfl, ht⟩ := hrel
        subst hgk
        have HT := Lib.hid ht
        clear ht HE
        have HA := Lib.hid (HALL.out _ HT.out.rr.below)
        obtain ⟨c0, c1, c2, c6, c8⟩ := HA.out.2.1
        by_cases hlt : k < nL
        · obtain ⟨x, hx⟩ : ∃ x, C.latches[k]? = some x := ⟨_, List.getElem?_eq_getElem (by rw [HNL.out]; exact hlt)⟩
          obtain ⟨ib, off, e, hib, hcell⟩ := HRL.out k x hx
          subst e
          obtain ⟨⟨p1, p2⟩, _, _⟩ := HRT.out.l x (List.mem_of_getElem? hx)
          rw [HMM.out] at p2
          obtain ⟨x0, x1, x2⟩ := x
          simp only at p1 p2
          have hx2 : (C.latches.map (·.1))[k]? = some x0 := by rw [List.getElem?_map, hx]; rfl
          obtain ⟨WD, hWD⟩ : ∃ WD, wr.drew = WD := ⟨_, rfl⟩
          have HWD := Lib.hid hWD
          have hTD := HT.out.drew
          rw [hWD] at hTD
          have HTD := Lib.hid hTD
          obtain ⟨F1, f1, f2⟩ := HTD.out.bld
          have HINP := Lib.hid (rLatch_any WD cx (bd0 C) F1 (k : Int) f1)
          rw [show (bd0 C).i = nI from HNI.out, show (bd0 C).l = nL from HNL.out, laE_at hlt] at HINP
          have hmv : mvX MM x0 = 2 * ((nI : Int) + k) + 2 := by
            have := HHD.out (nI + k) x0 (by rw [List.getElem?_append_right (by rw [HNI.out]; omega), HNI.out, Nat.add_sub_cancel_left]; exact hx2)
            push_cast at this
            omega
          have hmid := latMid hx (latA MM) id
          have hLl : ((C.latches.take k).map (latA MM) ++ (C.latches.drop k).map id).length = nL := by rw [List.length_append, List.length_map, List.length_map, List.length_take, List.length_drop, HNL.out]; omega
          have hrl := HTD.out.rr.l
          obtain ⟨gl, capl, hvl, hBl, hgll, _, hcl, hfl, _⟩ := own_cells3 hrl (by rw [hLl]; omega)
          rw [HVi.out.2.1] at hvl
          injection hvl with e1 e2 e3
          subst e1 e3
          clear e2
          obtain ⟨t0, _, _⟩ := hcl k _ hmid.1
          have fi := hfl (k * 3)
          have hN1 := HTD.out.setL1 (q := k) (z' := latA MM (x0, x1, x2)) HVi.out.2.1 hmid.1 0 (by omega) (2 * ((nI : Int) + k) + 2) (by simp [latA, encT, hmv])
          rw [hmid.2] at hN1
          simp only [Nat.add_zero] at hN1
          have HN1 := Lib.hid hN1
          have HHE := Lib.hid (HOC.out _ HTD.out.rr.box).2
          have HHE2 := Lib.hid (HOC.out _ HN1.out.rr.box).2
          have hk0 : (0 : Int) ≤ (k : Int) := by omega
          have hk1 : (k : Int) < (nL : Int) := by omega
          have HX := Lib.hid hx
          have HX2 := Lib.hid hx2
          have HIC := Lib.hid (And.intro hib (hcell 0 _ rfl))
          have HMV := Lib.hid hmv
          clear hx hx2 hcell f1 f2 hib hWD hTD hcl hfl hN1 hLl hBl hmid hmv hrl
          go_upto_region 12 with (fail)
          refine wp_region_T (by kernel_rfl) (fun w' => w'.cell? ⟨bo, 2, none⟩ = some (.slice (some ⟨gl, 0, none⟩) nL k1)) 12 ?_
          rw [HWD.out]
          have hHeld := HHE.out
          clear c0 c1 c2 c6 c8
          refine wpAnyT_take (i := 0) (v := ?v0r12q3) rfl (by kernel_rfl) (fun _ _ _ h => h) (by rfl) hHeld ?h0r12q3 ?_
          case h0r12q3 => (intro w' hSw; (try dsimp only at hSw); go_simp; try with_reducible rfl)
          (try simp only [Act.put, List.setIfInBounds_toArray])
          refine wpAnyT_take (i := 1) (v := ?v1r12q3) rfl (by kernel_rfl) (fun _ _ _ h => h) (by rfl) hHeld ?h1r12q3 ?_
          case h1r12q3 => (intro w' hSw; (try dsimp only at hSw); go_simp; try with_reducible rfl)
          (try simp only [Act.put])
          refine wpAnyT_take (i := 2) (v := ?v2r12q3) rfl (by kernel_rfl) (fun _ _ _ h => h) (by rfl) hHeld ?h2r12q3 ?_
          case h2r12q3 => (intro w' hSw; (try dsimp only at hSw); go_simp; try with_reducible rfl)
          (try simp only [Act.put])
          refine wpAnyT_take (i := 3) (v := ?v3r12q3) rfl (by kernel_rfl) (fun _ _ _ h => h) (by rfl) hHeld ?h3r12q3 ?_
          case h3r12q3 => (intro w' hSw; (try dsimp only at hSw); go_simp; try with_reducible rfl)
          (try simp only [Act.put])
          refine wpAnyT_take (i := 4) (v := ?v4r12q3) rfl (by kernel_rfl) (fun _ _ _ h => h) (by rfl) hHeld ?h4r12q3 ?_
          case h4r12q3 => (intro w' hSw; (try dsimp only at hSw); go_simp; try with_reducible rfl)
          (try simp only [Act.put])
          refine wpAnyT_one (i := 5) rfl (by kernel_rfl) (fun K hK => ?_)
          go_simp
          go_at_call 95
          refine HINP.out.mono ?_
          rintro e w5 ⟨rfl, hw5⟩
          rw [hw5]
          clear hw5 w5
          refine hK.out _ _ (fun _ => hHeld) ?_
          clear hK K
          (try simp only)
          refine wpAnyT_take (i := 6) (v := ?v6r12q4) rfl (by kernel_rfl) (fun _ _ _ h => h) (by rfl) hHeld ?h6r12q4 ?_
          case h6r12q4 => (intro w' hSw; (try dsimp only at hSw); go_simp; try with_reducible rfl)
          (try simp only [Act.put, List.setIfInBounds_toArray])
          refine wpAnyT_take (i := 7) (v := ?v7r12q4) rfl (by kernel_rfl) (fun _ _ _ h => h) (by rfl) hHeld ?h7r12q4 ?_
          case h7r12q4 => (intro w' hSw; (try dsimp only at hSw); go_simp; try with_reducible rfl)
          (try simp only [Act.put])
          refine wpAnyT_take (i := 8) (v := ?v8r12q4) rfl (by kernel_rfl) (fun _ _ _ h => h) (by rfl) hHeld ?h8r12q4 ?_
          case h8r12q4 => (intro w' hSw; (try dsimp only at hSw); go_simp; try with_reducible rfl)
          (try simp only [Act.put])
          refine wpAnyT_take (i := 9) (v := ?v9r12q4) rfl (by kernel_rfl) (fun _ _ _ h => h) (by rfl) hHeld ?h9r12q4 ?_
          case h9r12q4 => (intro w' hSw; (try dsimp only at hSw); go_simp; try with_reducible rfl)
          (try simp only [Act.put])
          refine wpAnyT_take (i := 10) (v := ?v10r12q4) rfl (by kernel_rfl) (fun _ _ _ h => h) (by rfl) hHeld ?h10r12q4 ?_
          case h10r12q4 => (intro w' hSw; (try dsimp only at hSw); go_simp; try with_reducible rfl)
          (try simp only [Act.put])
          clear hHeld
          refine wpAnyT_one (i := 11) rfl (by kernel_rfl) (fun K hK => ?_)
          go_simp
          refine hK.out _ _ (fun _ => HHE2.out) ?_
          clear hK K
          (try simp only [Act.put, List.setIfInBounds_toArray, List.set_cons_zero, List.set_cons_succ])
          refine wpAnyT_done (by kernel_rfl) ?_
          obtain ⟨W5, hW5⟩ : ∃ W5, WD.setCell ⟨gl, k * 3, none⟩ (.int .i64 (2 * ((nI : Int) + k) + 2)) = W5 := ⟨_, rfl⟩
          rw [hW5] at HN1
          rw [hW5]
          clear HHE HHE2 t0 fi hW5
          have HA5 := Lib.hid (HALL.out _ HN1.out.rr.below)
          obtain ⟨c0, c1, c2, c6, c8⟩ := HA5.out.2.1
          have d2 := (HOC.out _ HN1.out.rr.box).2
          have i0 := (HA5.out.2.2.2.2.2.cell (p := ⟨ib, off + (k * 3 + 0), none⟩) HIC.out.1).trans HIC.out.2
          simp only [Nat.add_zero] at i0
          have hget : ((C.latches.take (k + 1)).map (latA MM) ++ (C.latches.drop (k + 1)).map id)[k]? = some (latA MM (x0, x1, x2)) := by
            have := latMid HX.out (latA MM) id
            rw [← this.2, List.getElem?_set_self (by have := (List.getElem?_eq_some_iff.1 this.1).1; exact this)]
          have hLl2 : ((C.latches.take (k + 1)).map (latA MM) ++ (C.latches.drop (k + 1)).map id).length = nL := by rw [List.length_append, List.length_map, List.length_map, List.length_take, List.length_drop, HNL.out]; omega
          obtain ⟨gl', capl', hvl', _, _, _, hcl, _, _⟩ := own_cells3 HN1.out.rr.l (by rw [hLl2]; omega)
          rw [HVi.out.2.1] at hvl'
          injection hvl' with e1 e2 e3
          injection e1 with e1
          injection e1 with e1
          subst e1
          clear e2 e3
          obtain ⟨ci, _, _⟩ := hcl k _ hget
          simp only [latA, HMV.out] at ci
          obtain ⟨y, hy⟩ : ∃ y, (numF (C.inputs ++ (C.latches.map (·.1)).take k) (0, List.replicate (m + 1) 0)).2[(x0 / 2).toNat]? = some y := ⟨_, List.getElem?_eq_getElem (by rw [HML.out]; omega)⟩
          have HCM := Lib.hid (And.intro (Nums.cell HN1.out.drew.rr.nums hy) (And.intro (Blk.frozen HN1.out.drew.rr.nums (x0 / 2).toNat) (Blk.lt HN1.out.drew.rr.nums)))
          have hq := tdiv_nn (a := x0) (b := 2) (by omega)
          have hqw : IntKind.i64.wrap (x0 / 2) = x0 / 2 := i64_small (by omega) (by omega)
          have hq0 : (0 : Int) ≤ x0 / 2 := by omega
          have hq1 : x0 / 2 < (m : Int) + 1 := by omega
          have HN2 := Lib.hid (HN1.out.drew.setM (x0 / 2).toNat (2 * ((nI : Int) + k) + 2))
          have hM2 : (numF (C.inputs ++ (C.latches.map (·.1)).take (k + 1)) (0, List.replicate (m + 1) 0)).2 = ((numF (C.inputs ++ (C.latches.map (·.1)).take k) (0, List.replicate (m + 1) 0)).2).set (x0 / 2).toNat (2 * ((nI : Int) + k) + 2) := by
            rw [List.take_add_one, HX2.out]
            have := numF_appH (C.inputs ++ (C.latches.map (·.1)).take k) x0 (m + 1)
            rw [List.length_append, HNI.out, List.length_take, List.length_map, HNL.out, Nat.min_eq_left hk] at this
            simpa [List.append_assoc] using this
          rw [← hM2] at HN2
          clear hy hM2 hcl hget hLl2
          go_upto_region 13 with (fail)
          go_still_tail 15, (by kernel_rfl)
          change wpList _ _ _ _ _ W5.drew
          obtain ⟨cm, fm, lm⟩ := HCM.out
          generalize W5.drew = w6 at *
          go_wp2
          go_roundg (nL - (k + 1))
          case measure => omega
          case rel => exact ⟨k + 1, by omega, rfl, by go_num, HN2.out⟩
        · have hke : nL = k := by omega
          have HE2 : Hid (B0 W0 wr Bc gm bo cx OUT (bd0 C) (mapL C) UV (C.inputs.map (mvX MM)) (C.latches.map (latA MM)) C us) := Lib.hid (by
            have := HT.out
            rw [List.take_of_length_le (by rw [List.length_map, HNL.out, hke]; exact Nat.le_refl _), List.take_of_length_le (by rw [HNL.out, hke]; exact Nat.le_refl _), List.drop_eq_nil_of_le (by rw [HNL.out, hke]; exact Nat.le_refl _), List.map_nil, List.append_nil] at this
            unfold mapL
            rw [HMM.out]
            exact this)
          have hk1 : ¬ (k : Int) < (nL : Int) := by omega
          clear HT hke HA
          go_wp2
          clear c0 c1 c2 c6 c8
          go_loopg [11] nA (fun j iv wx => ∃ k : Nat, k ≤ nA ∧ j = nA - k ∧ iv = .int .i64 k ∧ B0 W0 wx Bc gm bo cx OUT (tellG C (O.take k)).1 (tellG C (O.take k)).2 UV (C.inputs.map (mvX MM)) (C.latches.map (latA MM)) C us)
          case atStart => exact ⟨0, Nat.zero_le _, rfl, rfl, HE2.out⟩
          case round =>
            obtain ⟨k, hk, hgk, rfl, ht⟩ := hrel
            subst hgk
            by_cases hlt : k < nA
            · have hTI := tellG_i HFI.out HO.out k (by rw [HLO.out]; exact hk)
              obtain ⟨gi, hgi⟩ : ∃ x, O[k]? = some x := ⟨_, List.getElem?_eq_getElem (by rw [HLO.out]; exact hlt)⟩
              have hgr := HO.out.inR gi (List.mem_of_getElem? hgi)
              rw [HNA.out] at hgr
              have hst : tellG C (O.take (k + 1)) = tell1 C (tellG C (O.take k)) gi := by rw [List.take_add_one, hgi]; exact tellG_snoc C (O.take k) gi
              obtain ⟨s, hs⟩ : ∃ s, tellG C (O.take k) = s := ⟨_, rfl⟩
              rw [hs] at ht hTI hst
              obtain ⟨b, M⟩ := s
              simp only at ht
              have HT := Lib.hid ht
              have HST := Lib.hid hst
              have hok := hTI.ok
              have hhas := hTI.has
              have hML := hTI.len
              simp only at hok hhas hML
              rw [HMM.out, show ((m : Int)).toNat = m by omega] at hML
              clear ht HE2 hTI hst hs
              have HA := Lib.hid (HALL.out _ HT.out.rr.below)
              obtain ⟨c0, c1, c2, c6, c8⟩ := HA.out.2.1
              obtain ⟨ob, ooff, e, hob, hocell⟩ := HRG.out k gi hgi
              subst e
              have o0 := (HA.out.2.2.2.2.2.cell (p := ⟨ob, ooff + (k * 1 + 0), none⟩) hob).trans (hocell 0 _ rfl)
              simp only [Nat.mul_one, Nat.add_zero] at o0
              obtain ⟨gn, rfl⟩ : ∃ gn : Nat, gi = (gn : Int) := ⟨gi.toNat, by omega⟩
              obtain ⟨x, hx⟩ : ∃ x, C.ands[gn]? = some x := ⟨_, List.getElem?_eq_getElem (by rw [HNA.out]; omega)⟩
              obtain ⟨lb, off, e, hlb, hcell⟩ := HRA.out gn x hx
              subst e
              obtain ⟨⟨p1, p2⟩, ⟨q1, q2⟩, ⟨r1, r2⟩⟩ := HRT.out.a x (List.mem_of_getElem? hx)
              rw [HMM.out] at p2 q2 r2
              obtain ⟨x0, x1, x2⟩ := x
              simp only at p1 p2 q1 q2 r1 r2
              have i0 := (HA.out.2.2.2.2.2.cell (p := ⟨lb, off + (gn * 3 + 0), none⟩) hlb).trans (hcell 0 _ rfl)
              have i1 := (HA.out.2.2.2.2.2.cell (p := ⟨lb, off + (gn * 3 + 1), none⟩) hlb).trans (hcell 1 _ rfl)
              have i2 := (HA.out.2.2.2.2.2.cell (p := ⟨lb, off + (gn * 3 + 2), none⟩) hlb).trans (hcell 2 _ rfl)
              simp only [Nat.add_zero, ← Nat.add_assoc] at i0 i1 i2
              have hgD : C.ands.getD ((gn : Int)).toNat (0, 0, 0) = (x0, x1, x2) := by simp [List.getD, hx]
              have HH17 : Hid ((wr.drew.cell? ⟨w.heap.size, 8, none⟩ = some (.slice (some ⟨lb, off, none⟩) nA cA) ∧ wr.drew.cell? ⟨ob, ooff + k, none⟩ = some (.int .i64 (gn : Int)) ∧ wr.drew.cell? ⟨lb, off + gn * 3, none⟩ = some (.int .i64 x0) ∧ wr.drew.cell? ⟨lb, off + gn * 3 + 1, none⟩ = some (.int .i64 x1) ∧ wr.drew.cell? ⟨lb, off + gn * 3 + 2, none⟩ = some (.int .i64 x2))) := Lib.hid ⟨c8, o0, i0, i1, i2⟩
              have hbl0 : Below wr.heap.size wr ((wr.alloc (.cells #[.int .i64 x0, .int .i64 x1, .int .i64 x2] 80)).drew.drew) := ((Below.refl _ _).alloc (Nat.le_refl _) _).drew.drew
              have HLB : Hid (Blk ((wr.alloc (.cells #[.int .i64 x0, .int .i64 x1, .int .i64 x2] 80)).drew.drew) wr.heap.size 80 #[.int .i64 x0, .int .i64 x1, .int .i64 x2]) := Lib.hid ((Blk.new wr 80 #[.int .i64 x0, .int .i64 x1, .int .i64 x2]).drew.drew)
              have HGL : Hid (wr.heap.size ≠ gm) := Lib.hid (by have := Blk.lt HT.out.rr.nums; omega)
              obtain ⟨F1, f1, f2⟩ := HT.out.bld
              have HFL : Hid (¬ F1 wr.heap.size) := Lib.hid (fun hh => by have := f1.lt hh; omega)
              have f0 := f1.below ((Below.refl _ _).alloc (Nat.le_refl _) (.cells #[.int .i64 x0, .int .i64 x1, .int .i64 x2] 80))
              have f3 := f1.below hbl0
              obtain ⟨WD, hWD⟩ : ∃ WD, (wr.alloc (.cells #[.int .i64 x0, .int .i64 x1, .int .i64 x2] 80)).drew.drew = WD := ⟨_, rfl⟩
              have hT3 := HT.out.on hbl0
              rw [hWD] at HLB f3 hT3
              have HWD := Lib.hid hWD
              have HT3 := Lib.hid hT3
              have HF2 := Lib.hid f2
              obtain ⟨lb2, hlb2⟩ : ∃ z, wr.heap.size = z := ⟨_, rfl⟩
              rw [hlb2] at HLB HGL HFL
              have HL2 := Lib.hid hlb2
              have hmk2 := map_ok hok hhas
              have hOF1 := rLitX_any WD gm M x1 HT3.out.rr.nums q1 (by rw [hML]; push_cast; omega) (by omega) hmk2
              have hOF2 := rLitX_any WD gm M x2 HT3.out.rr.nums r1 (by rw [hML]; push_cast; omega) (by omega) hmk2
              rw [hML] at hOF1 hOF2
              have HOF1 := Lib.hid hOF1
              have HOF2 := Lib.hid hOF2
              have HAND := Lib.hid (rAnd0_any WD cx b F1 (mvX M x1) (mvX M x2) f3 (mvX_has hhas x1) (mvX_has hhas x2))
              have HSTEP : Hid (tellG C (O.take (k + 1)) = ((b.and_ (mvX M x1) (mvX M x2)).2, M.set (x0 / 2).toNat (b.and_ (mvX M x1) (mvX M x2)).1.1)) := Lib.hid (by
                rw [HST.out]
                unfold tell1 outG
                rw [hgD])
              obtain ⟨y1, hy1⟩ : ∃ y, mvX M x1 = y := ⟨_, rfl⟩
              obtain ⟨y2, hy2⟩ : ∃ y, mvX M x2 = y := ⟨_, rfl⟩
              rw [hy1] at HOF1 HAND HSTEP
              rw [hy2] at HOF2 HAND HSTEP
              obtain ⟨⟨⟨z, e0⟩, b2⟩, hR⟩ : ∃ r, b.and_ y1 y2 = r := ⟨_, rfl⟩
              rw [hR] at HAND HSTEP
              simp only at HAND HSTEP
              have HY : Hid (∃ y, M[(x0 / 2).toNat]? = some y) := Lib.hid ⟨_, List.getElem?_eq_getElem (by rw [hML]; omega)⟩
              have hq := tdiv_nn (a := x0) (b := 2) (by omega)
              have hqw : IntKind.i64.wrap (x0 / 2) = x0 / 2 := i64_small (by omega) (by omega)
              have hk0 : (0 : Int) ≤ (k : Int) := by omega
              have hk1 : (k : Int) < (nA : Int) := by omega
              have hg0 : (0 : Int) ≤ (gn : Int) := by omega
              have hg1 : (gn : Int) < (nA : Int) := by omega
              have hq0 : (0 : Int) ≤ x0 / 2 := by omega
              have hq1 : x0 / 2 < (m : Int) + 1 := by omega
              clear hx hcell hlb hbl0 hWD hlb2 f0 f1 f2 f3 hgi hgr hok hhas hML hocell hob hgD hmk2 hy1 hy2 hR hT3 hOF1 hOF2
              go_upto_region 17 with (fail)
              refine wp_region_T (by kernel_rfl) (fun w' => w'.cell? ⟨w.heap.size, 8, none⟩ = some (.slice (some ⟨lb, off, none⟩) nA cA) ∧ w'.cell? ⟨ob, ooff + k, none⟩ = some (.int .i64 (gn : Int)) ∧ w'.cell? ⟨lb, off + gn * 3, none⟩ = some (.int .i64 x0) ∧ w'.cell? ⟨lb, off + gn * 3 + 1, none⟩ = some (.int .i64 x1) ∧ w'.cell? ⟨lb, off + gn * 3 + 2, none⟩ = some (.int .i64 x2)) 10 ?_
              have hHeld := HH17.out
              have HK17 : Hid (∀ wz, Below wr.drew.heap.size wr.drew wz → wz.cell? ⟨w.heap.size, 8, none⟩ = some (.slice (some ⟨lb, off, none⟩) nA cA) ∧ wz.cell? ⟨ob, ooff + k, none⟩ = some (.int .i64 (gn : Int)) ∧ wz.cell? ⟨lb, off + gn * 3, none⟩ = some (.int .i64 x0) ∧ wz.cell? ⟨lb, off + gn * 3 + 1, none⟩ = some (.int .i64 x1) ∧ wz.cell? ⟨lb, off + gn * 3 + 2, none⟩ = some (.int .i64 x2)) := Lib.hid (fun wz hb => ⟨cell_belowH HH17.out.1 hb, cell_belowH HH17.out.2.1 hb, cell_belowH HH17.out.2.2.1 hb, cell_belowH HH17.out.2.2.2.1 hb, cell_belowH HH17.out.2.2.2.2 hb⟩)
              clear c0 c1 c2 c6 c8 i0 i1 i2 o0
              refine wpAnyT_take (i := 0) (v := ?v0r17q5) rfl (by kernel_rfl) (fun _ _ _ h => h) (by rfl) hHeld ?h0r17q5 ?_
              case h0r17q5 => (intro w' hSw; (try dsimp only at hSw); go_simp; try with_reducible rfl)
              (try simp only [Act.put, List.setIfInBounds_toArray])
              refine wpAnyT_take (i := 1) (v := ?v1r17q5) rfl (by kernel_rfl) (fun _ _ _ h => h) (by rfl) hHeld ?h1r17q5 ?_
              case h1r17q5 => (intro w' hSw; (try dsimp only at hSw); go_simp; try with_reducible rfl)
              (try simp only [Act.put])
              refine wpAnyT_take (i := 2) (v := ?v2r17q5) rfl (by kernel_rfl) (fun _ _ _ h => h) (by rfl) hHeld ?h2r17q5 ?_
              case h2r17q5 => (intro w' hSw; (try dsimp only at hSw); go_simp; try with_reducible rfl)
              (try simp only [Act.put])
              refine wpAnyT_take (i := 3) (v := ?v3r17q5) rfl (by kernel_rfl) (fun _ _ _ h => h) (by rfl) hHeld ?h3r17q5 ?_
              case h3r17q5 => (intro w' hSw; (try dsimp only at hSw); go_simp; try with_reducible rfl)
              (try simp only [Act.put])
              refine wpAnyT_take (i := 4) (v := ?v4r17q5) rfl (by kernel_rfl) (fun _ _ _ h => h) (by rfl) hHeld ?h4r17q5 ?_
              case h4r17q5 => (intro w' hSw; (try dsimp only at hSw); go_simp; try with_reducible rfl)
              (try simp only [Act.put])
              refine wpAnyT_take (i := 5) (v := ?v5r17q5) rfl (by kernel_rfl) (fun _ _ _ h => h) (by rfl) hHeld ?h5r17q5 ?_
              case h5r17q5 => (intro w' hSw; (try dsimp only at hSw); go_simp; try with_reducible rfl)
              (try simp only [Act.put])
              refine wpAnyT_take (i := 6) (v := ?v6r17q5) rfl (by kernel_rfl) (fun _ _ _ h => h) (by rfl) hHeld ?h6r17q5 ?_
              case h6r17q5 => (intro w' hSw; (try dsimp only at hSw); go_simp; try with_reducible rfl)
              (try simp only [Act.put])
              refine wpAnyT_take (i := 7) (v := ?v7r17q5) rfl (by kernel_rfl) (fun _ _ _ h => h) (by rfl) hHeld ?h7r17q5 ?_
              case h7r17q5 => (intro w' hSw; (try dsimp only at hSw); go_simp; try with_reducible rfl)
              (try simp only [Act.put])
              clear hHeld
              refine wpAnyT_one (i := 8) rfl (by kernel_rfl) (fun K hK => ?_)
              go_simp
              refine hK.out _ _ (fun _ => HK17.out _ ((Below.refl _ _).alloc (Nat.le_refl _) _)) ?_
              clear hK K
              (try simp only [Act.put, List.setIfInBounds_toArray, List.set_cons_zero, List.set_cons_succ])
              refine wpAnyT_one (i := 9) rfl (by kernel_rfl) (fun K hK => ?_)
              go_simp
              refine hK.out _ _ (fun _ => HK17.out _ (by first | exact (Below.refl _ _).alloc (Nat.le_refl _) _ | exact ((Below.refl _ _).alloc (Nat.le_refl _) _).drew)) ?_
              clear hK K
              (try simp only [Act.put, List.setIfInBounds_toArray, List.set_cons_zero, List.set_cons_succ])
              refine wpAnyT_done (by kernel_rfl) ?_
              go_upto_region 18 with (fail)
              refine wp_region_T (by kernel_rfl) (fun w' => w'.cell? ⟨lb2, 0, none⟩ = some (.int .i64 x0) ∧ w'.cell? ⟨lb2, 1, none⟩ = some (.int .i64 x1) ∧ w'.cell? ⟨lb2, 2, none⟩ = some (.int .i64 x2)) 19 ?_
              rw [HWD.out, HL2.out]
              have hHeld : WD.cell? ⟨lb2, 0, none⟩ = some (.int .i64 x0) ∧ WD.cell? ⟨lb2, 1, none⟩ = some (.int .i64 x1) ∧ WD.cell? ⟨lb2, 2, none⟩ = some (.int .i64 x2) := ⟨HLB.out.cell 0, HLB.out.cell 1, HLB.out.cell 2⟩
              refine wpAnyT_take (i := 0) (v := ?v0r18q6) rfl (by kernel_rfl) (fun _ _ _ h => h) (by rfl) hHeld ?h0r18q6 ?_
              case h0r18q6 => (intro w' hSw; (try dsimp only at hSw); go_simp; try with_reducible rfl)
              (try simp only [Act.put, List.setIfInBounds_toArray])
              refine wpAnyT_take (i := 1) (v := ?v1r18q6) rfl (by kernel_rfl) (fun _ _ _ h => h) (by rfl) hHeld ?h1r18q6 ?_
              case h1r18q6 => (intro w' hSw; (try dsimp only at hSw); go_simp; try with_reducible rfl)
              (try simp only [Act.put])
              refine wpAnyT_take (i := 2) (v := ?v2r18q6) rfl (by kernel_rfl) (fun _ _ _ h => h) (by rfl) hHeld ?h2r18q6 ?_
              case h2r18q6 => (intro w' hSw; (try dsimp only at hSw); go_simp; try with_reducible rfl)
              (try simp only [Act.put])
              refine wpAnyT_take (i := 3) (v := ?v3r18q6) rfl (by kernel_rfl) (fun _ _ _ h => h) (by rfl) hHeld ?h3r18q6 ?_
              case h3r18q6 => (intro w' hSw; (try dsimp only at hSw); go_simp; try with_reducible rfl)
              (try simp only [Act.put])
              refine wpAnyT_take (i := 4) (v := ?v4r18q6) rfl (by kernel_rfl) (fun _ _ _ h => h) (by rfl) hHeld ?h4r18q6 ?_
              case h4r18q6 => (intro w' hSw; (try dsimp only at hSw); go_simp; try with_reducible rfl)
              (try simp only [Act.put])
              refine wpAnyT_take (i := 5) (v := ?v5r18q6) rfl (by kernel_rfl) (fun _ _ _ h => h) (by rfl) hHeld ?h5r18q6 ?_
              case h5r18q6 => (intro w' hSw; (try dsimp only at hSw); go_simp; try with_reducible rfl)
              (try simp only [Act.put])
              refine wpAnyT_take (i := 6) (v := ?v6r18q6) rfl (by kernel_rfl) (fun _ _ _ h => h) (by rfl) hHeld ?h6r18q6 ?_
              case h6r18q6 => (intro w' hSw; (try dsimp only at hSw); go_simp; try with_reducible rfl)
              (try simp only [Act.put])
              refine wpAnyT_take (i := 7) (v := ?v7r18q6) rfl (by kernel_rfl) (fun _ _ _ h => h) (by rfl) hHeld ?h7r18q6 ?_
              case h7r18q6 => (intro w' hSw; (try dsimp only at hSw); go_simp; try with_reducible rfl)
              (try simp only [Act.put])
              refine wpAnyT_take (i := 9) (v := ?v9r18q7) rfl (by kernel_rfl) (fun _ _ _ h => h) (by rfl) hHeld ?h9r18q7 ?_
              case h9r18q7 => (intro w' hSw; (try dsimp only at hSw); go_simp; try with_reducible rfl)
              (try simp only [Act.put])
              refine wpAnyT_take (i := 10) (v := ?v10r18q7) rfl (by kernel_rfl) (fun _ _ _ h => h) (by rfl) hHeld ?h10r18q7 ?_
              case h10r18q7 => (intro w' hSw; (try dsimp only at hSw); go_simp; try with_reducible rfl)
              (try simp only [Act.put])
              refine wpAnyT_take (i := 11) (v := ?v11r18q7) rfl (by kernel_rfl) (fun _ _ _ h => h) (by rfl) hHeld ?h11r18q7 ?_
              case h11r18q7 => (intro w' hSw; (try dsimp only at hSw); go_simp; try with_reducible rfl)
              (try simp only [Act.put])
              refine wpAnyT_one (i := 8) rfl (by kernel_rfl) (fun K hK => ?_)
              go_simp
              go_at_call 56
              refine HOF1.out.mono ?_
              rintro e w5 ⟨rfl, hw5⟩
              rw [hw5]
              clear hw5 w5
              refine hK.out _ _ (fun _ => hHeld) ?_
              clear hK K
              (try simp only [Act.put, List.setIfInBounds_toArray, List.set_cons_zero, List.set_cons_succ])
              refine wpAnyT_one (i := 12) rfl (by kernel_rfl) (fun K hK => ?_)
              go_simp
              go_at_call 56
              refine HOF2.out.mono ?_
              rintro e w5 ⟨rfl, hw5⟩
              rw [hw5]
              clear hw5 w5
              refine hK.out _ _ (fun _ => hHeld) ?_
              clear hK K hHeld
              (try simp only [Act.put, List.setIfInBounds_toArray, List.set_cons_zero, List.set_cons_succ])
              refine wpAnyT_one (i := 13) rfl (by kernel_rfl) (fun K hK => ?_)
              go_simp
              go_at_call 96
              refine HAND.out.mono ?_
              rintro e w2 ⟨rfl, hd⟩
              have HT4 := Lib.hid (HT3.out.did HF2.out hd)
              have HLB4 : Hid (Blk w2 lb2 80 #[.int .i64 x0, .int .i64 x1, .int .i64 x2]) := Lib.hid (by
                obtain ⟨F', k1, k2, k3⟩ := hd
                exact k2.blk HLB.out HFL.out)
              have hHeld : w2.cell? ⟨lb2, 0, none⟩ = some (.int .i64 x0) ∧ w2.cell? ⟨lb2, 1, none⟩ = some (.int .i64 x1) ∧ w2.cell? ⟨lb2, 2, none⟩ = some (.int .i64 x2) := ⟨HLB4.out.cell 0, HLB4.out.cell 1, HLB4.out.cell 2⟩
              obtain ⟨y, hy⟩ := HY.out
              have cm := Nums.cell HT4.out.rr.nums hy
              have fm := Blk.frozen HT4.out.rr.nums (x0 / 2).toNat
              have lm := Blk.lt HT4.out.rr.nums
              clear hy hd
              refine hK.out _ _ (fun _ => hHeld) ?_
              clear hK K
              (try simp only [Act.put, List.setIfInBounds_toArray, List.set_cons_zero, List.set_cons_succ])
              refine wpAnyT_take (i := 14) (v := ?v14r18q8) rfl (by kernel_rfl) (fun _ _ _ h => h) (by rfl) hHeld ?h14r18q8 ?_
              case h14r18q8 => (intro w' hSw; (try dsimp only at hSw); go_simp; try with_reducible rfl)
              (try simp only [Act.put, List.setIfInBounds_toArray])
              refine wpAnyT_take (i := 15) (v := ?v15r18q8) rfl (by kernel_rfl) (fun _ _ _ h => h) (by rfl) hHeld ?h15r18q8 ?_
              case h15r18q8 => (intro w' hSw; (try dsimp only at hSw); go_simp; try with_reducible rfl)
              (try simp only [Act.put])
              refine wpAnyT_take (i := 16) (v := ?v16r18q8) rfl (by kernel_rfl) (fun _ _ _ h => h) (by rfl) hHeld ?h16r18q8 ?_
              case h16r18q8 => (intro w' hSw; (try dsimp only at hSw); go_simp; try with_reducible rfl)
              (try simp only [Act.put])
              refine wpAnyT_take (i := 17) (v := ?v17r18q8) rfl (by kernel_rfl) (fun _ _ _ h => h) (by rfl) hHeld ?h17r18q8 ?_
              case h17r18q8 => (intro w' hSw; (try dsimp only at hSw); go_simp; try with_reducible rfl)
              (try simp only [Act.put])
              clear hHeld
              refine wpAnyT_one (i := 18) rfl (by kernel_rfl) (fun K hK => ?_)
              go_simp
              refine hK.out _ _ (fun _ => ⟨(HLB4.out.far HGL.out _).cell 0, (HLB4.out.far HGL.out _).cell 1, (HLB4.out.far HGL.out _).cell 2⟩) ?_
              clear hK K
              (try simp only [Act.put, List.setIfInBounds_toArray, List.set_cons_zero, List.set_cons_succ])
              refine wpAnyT_done (by kernel_rfl) ?_
              have HN2 := Lib.hid (HT4.out.setM (x0 / 2).toNat z)
              go_wp2
              go_roundg (nA - (k + 1))
              case measure => omega
              case rel => exact ⟨k + 1, by omega, rfl, by go_num, by rw [HSTEP.out]; exact HN2.out⟩
            · have hke : nA = k := by omega
              have HE3 : Hid (B0 W0 wr Bc gm bo cx OUT (bldB C O) MM UV (C.inputs.map (mvX MM)) (C.latches.map (latA MM)) C us) := Lib.hid (by
                have := ht
                rw [List.take_of_length_le (by rw [HLO.out, hke]; exact Nat.le_refl _)] at this
                have h2 : B0 W0 wr Bc gm bo cx OUT (bldB C O) (bldM C O) UV (C.inputs.map (mvX MM)) (C.latches.map (latA MM)) C us := this
                rwa [HMB.out] at h2)
              have hk1 : ¬ (k : Int) < (nA : Int) := by omega
              clear ht hke
              have HA := Lib.hid (HALL.out _ HE3.out.rr.below)
              obtain ⟨c0, c1, c2, c6, c8⟩ := HA.out.2.1
              go_wp2
              clear c0 c1 c2 c6 c8
              have HMK : Hid (MapOk MM ∧ MM.length = m + 1) := Lib.hid ⟨map_ok HTI.out.ok HTI.out.has, by have := HTI.out.len; rw [HMM.out] at this; simp only at this; omega⟩
              have HZO : Hid (mvX MM 0 = 0 ∧ mvX MM 1 = 1) := Lib.hid (by
                have h0 := HM0.out
                constructor
                · show (if (0 : Int) % 2 = 0 then MM.getD ((0 : Int) / 2).toNat 0 else _) = 0
                  simpa using h0
                · show (if (1 : Int) % 2 = 0 then _ else neg (MM.getD ((1 : Int) / 2).toNat 0)) = 1
                  rw [if_neg (by decide), show ((1 : Int) / 2).toNat = 0 by decide, h0]
                  rfl)
              go_loopg [13] nL (fun j iv wx => ∃ k : Nat, k ≤ nL ∧ j = nL - k ∧ iv = .int .i64 k ∧ B0 W0 wx Bc gm bo cx OUT (bldB C O) MM UV (C.inputs.map (mvX MM)) ((C.latches.take k).map (latB MM) ++ (C.latches.drop k).map (latA MM)) C us)
              case atStart => exact ⟨0, Nat.zero_le _, rfl, rfl, by simpa using HE3.out⟩
              case round =>
                obtain ⟨k, hk, hgk, rfl, ht⟩ := hrel
                subst hgk
                have HT := Lib.hid ht
                clear ht HE3 HA
                have HA := Lib.hid (HALL.out _ HT.out.rr.below)
                obtain ⟨c0, c1, c2, c6, c8⟩ := HA.out.2.1
                by_cases hlt : k < nL
                · obtain ⟨x, hx⟩ : ∃ x, C.latches[k]? = some x := ⟨_, List.getElem?_eq_getElem (by rw [HNL.out]; exact hlt)⟩
                  obtain ⟨ib, off, e, hib, hcell⟩ := HRL.out k x hx
                  subst e
                  obtain ⟨⟨p1, p2⟩, ⟨q1, q2⟩, r4⟩ := HRT.out.l x (List.mem_of_getElem? hx)
                  rw [HMM.out] at p2 q2
                  obtain ⟨x0, x1, x2⟩ := x
                  simp only at p1 p2 q1 q2 r4
                  obtain ⟨WD, hWD⟩ : ∃ WD, wr.drew = WD := ⟨_, rfl⟩
                  have HWD := Lib.hid hWD
                  have hTD := HT.out.drew
                  rw [hWD] at hTD
                  have HTD := Lib.hid hTD
                  have hLIT := rLitX_any WD gm MM x1 HTD.out.rr.nums q1 (by rw [HMK.out.2]; push_cast; omega) (by rw [HMK.out.2]; omega) HMK.out.1
                  rw [HMK.out.2] at hLIT
                  have HLIT := Lib.hid hLIT
                  have HMID := Lib.hid (latMid hx (latB MM) (latA MM))
                  have HLL : Hid (((C.latches.take k).map (latB MM) ++ (C.latches.drop k).map (latA MM)).length = nL) := Lib.hid (by rw [List.length_append, List.length_map, List.length_map, List.length_take, List.length_drop, HNL.out]; omega)
                  obtain ⟨gl, capl, hvl, hBl, hgll, _, hcl, hfl, _⟩ := own_cells3 HTD.out.rr.l (by rw [HLL.out]; omega)
                  rw [HVi.out.2.1] at hvl
                  injection hvl with e1 e2 e3
                  subst e1 e3
                  clear e2
                  obtain ⟨_, t1, _⟩ := hcl k _ HMID.out.1
                  have fi := hfl (k * 3 + 1)
                  have HN1 := Lib.hid (HTD.out.setL1 (q := k) (z' := (mvX MM x0, mvX MM x1, x2)) HVi.out.2.1 HMID.out.1 1 (by omega) (mvX MM x1) (by simp [latA, encT]))
                  have HHE := Lib.hid (HOC.out _ HTD.out.rr.box).2
                  have HHE2 := Lib.hid (HOC.out _ HN1.out.rr.box).2
                  have hk0 : (0 : Int) ≤ (k : Int) := by omega
                  have hk1 : (k : Int) < (nL : Int) := by omega
                  have HX := Lib.hid hx
                  have HIC := Lib.hid (And.intro hib (And.intro (hcell 1 _ rfl) (hcell 2 _ rfl)))
                  have HCD := Lib.hid (HALL.out _ HTD.out.rr.below)
                  have HI1 : Hid (WD.cell? ⟨ib, off + k * 3 + 1, none⟩ = some (.int .i64 x1)) := Lib.hid (by
                    have := (HCD.out.2.2.2.2.2.cell (p := ⟨ib, off + (k * 3 + 1), none⟩) hib).trans (hcell 1 _ rfl)
                    simpa only [← Nat.add_assoc] using this)
                  have HC8 := Lib.hid (HALL.out _ HN1.out.rr.below)
                  have HI8 : Hid ((WD.setCell ⟨gl, k * 3 + 1, none⟩ (.int .i64 (mvX MM x1))).cell? ⟨ib, off + k * 3 + 1, none⟩ = some (.int .i64 x1)) := Lib.hid (by
                    have := (HC8.out.2.2.2.2.2.cell (p := ⟨ib, off + (k * 3 + 1), none⟩) hib).trans (hcell 1 _ rfl)
                    simpa only [← Nat.add_assoc] using this)
                  clear hx hcell hib hWD hTD hcl hfl hBl hLIT
                  obtain ⟨v1, hv1⟩ : ∃ v, mvX MM x1 = v := ⟨_, rfl⟩
                  rw [hv1] at HLIT HN1 HHE2 HI8 HC8
                  have HV1 := Lib.hid hv1
                  clear hv1
                  go_upto_region 22 with (fail)
                  refine wp_region_T (by kernel_rfl) (fun w' => w'.cell? ⟨bo, 2, none⟩ = some (.slice (some ⟨gl, 0, none⟩) nL k1) ∧ w'.cell? ⟨w.heap.size, 2, none⟩ = some (.slice (some ⟨ib, off, none⟩) nL cL) ∧ w'.cell? ⟨ib, off + k * 3 + 1, none⟩ = some (.int .i64 x1)) 14 ?_
                  rw [HWD.out]
                  have hHeld : WD.cell? ⟨bo, 2, none⟩ = some (.slice (some ⟨gl, 0, none⟩) nL k1) ∧ WD.cell? ⟨w.heap.size, 2, none⟩ = some (.slice (some ⟨ib, off, none⟩) nL cL) ∧ WD.cell? ⟨ib, off + k * 3 + 1, none⟩ = some (.int .i64 x1) := ⟨HHE.out, HCD.out.2.1.2.2.1, HI1.out⟩
                  clear c0 c1 c2 c6 c8
                  refine wpAnyT_take (i := 0) (v := ?v0r22q9) rfl (by kernel_rfl) (fun _ _ _ h => h) (by rfl) hHeld ?h0r22q9 ?_
                  case h0r22q9 => (intro w' hSw; (try dsimp only at hSw); go_simp; try with_reducible rfl)
                  (try simp only [Act.put, List.setIfInBounds_toArray])
                  refine wpAnyT_take (i := 1) (v := ?v1r22q9) rfl (by kernel_rfl) (fun _ _ _ h => h) (by rfl) hHeld ?h1r22q9 ?_
                  case h1r22q9 => (intro w' hSw; (try dsimp only at hSw); go_simp; try with_reducible rfl)
                  (try simp only [Act.put])
                  refine wpAnyT_take (i := 2) (v := ?v2r22q9) rfl (by kernel_rfl) (fun _ _ _ h => h) (by rfl) hHeld ?h2r22q9 ?_
                  case h2r22q9 => (intro w' hSw; (try dsimp only at hSw); go_simp; try with_reducible rfl)
                  (try simp only [Act.put])
                  refine wpAnyT_take (i := 3) (v := ?v3r22q9) rfl (by kernel_rfl) (fun _ _ _ h => h) (by rfl) hHeld ?h3r22q9 ?_
                  case h3r22q9 => (intro w' hSw; (try dsimp only at hSw); go_simp; try with_reducible rfl)
                  (try simp only [Act.put])
                  refine wpAnyT_take (i := 4) (v := ?v4r22q9) rfl (by kernel_rfl) (fun _ _ _ h => h) (by rfl) hHeld ?h4r22q9 ?_
                  case h4r22q9 => (intro w' hSw; (try dsimp only at hSw); go_simp; try with_reducible rfl)
                  (try simp only [Act.put])
                  refine wpAnyT_take (i := 5) (v := ?v5r22q9) rfl (by kernel_rfl) (fun _ _ _ h => h) (by rfl) hHeld ?h5r22q9 ?_
                  case h5r22q9 => (intro w' hSw; (try dsimp only at hSw); go_simp; try with_reducible rfl)
                  (try simp only [Act.put])
                  refine wpAnyT_take (i := 6) (v := ?v6r22q9) rfl (by kernel_rfl) (fun _ _ _ h => h) (by rfl) hHeld ?h6r22q9 ?_
                  case h6r22q9 => (intro w' hSw; (try dsimp only at hSw); go_simp; try with_reducible rfl)
                  (try simp only [Act.put])
                  refine wpAnyT_take (i := 7) (v := ?v7r22q9) rfl (by kernel_rfl) (fun _ _ _ h => h) (by rfl) hHeld ?h7r22q9 ?_
                  case h7r22q9 => (intro w' hSw; (try dsimp only at hSw); go_simp; try with_reducible rfl)
                  (try simp only [Act.put])
                  refine wpAnyT_take (i := 8) (v := ?v8r22q9) rfl (by kernel_rfl) (fun _ _ _ h => h) (by rfl) hHeld ?h8r22q9 ?_
                  case h8r22q9 => (intro w' hSw; (try dsimp only at hSw); go_simp; try with_reducible rfl)
                  (try simp only [Act.put])
                  refine wpAnyT_take (i := 9) (v := ?v9r22q9) rfl (by kernel_rfl) (fun _ _ _ h => h) (by rfl) hHeld ?h9r22q9 ?_
                  case h9r22q9 => (intro w' hSw; (try dsimp only at hSw); go_simp; try with_reducible rfl)
                  (try simp only [Act.put])
                  refine wpAnyT_one (i := 10) rfl (by kernel_rfl) (fun K hK => ?_)
                  go_simp
                  go_at_call 56
                  refine HLIT.out.mono ?_
                  rintro e w5 ⟨rfl, hw5⟩
                  rw [hw5]
                  clear hw5 w5
                  refine hK.out _ _ (fun _ => hHeld) ?_
                  clear hK K
                  (try simp only [Act.put, List.setIfInBounds_toArray, List.set_cons_zero, List.set_cons_succ])
                  refine wpAnyT_take (i := 11) (v := ?v11r22q10) rfl (by kernel_rfl) (fun _ _ _ h => h) (by rfl) hHeld ?h11r22q10 ?_
                  case h11r22q10 => (intro w' hSw; (try dsimp only at hSw); go_simp; try with_reducible rfl)
                  (try simp only [Act.put, List.setIfInBounds_toArray])
                  refine wpAnyT_take (i := 12) (v := ?v12r22q10) rfl (by kernel_rfl) (fun _ _ _ h => h) (by rfl) hHeld ?h12r22q10 ?_
                  case h12r22q10 => (intro w' hSw; (try dsimp only at hSw); go_simp; try with_reducible rfl)
                  (try simp only [Act.put])
                  clear hHeld
                  refine wpAnyT_one (i := 13) rfl (by kernel_rfl) (fun K hK => ?_)
                  go_simp
                  refine hK.out _ _ (fun _ => ⟨HHE2.out, HC8.out.2.1.2.2.1, HI8.out⟩) ?_
                  clear hK K
                  (try simp only [Act.put, List.setIfInBounds_toArray, List.set_cons_zero, List.set_cons_succ])
                  refine wpAnyT_done (by kernel_rfl) ?_
                  obtain ⟨W5, hW5⟩ : ∃ W5, WD.setCell ⟨gl, k * 3 + 1, none⟩ (.int .i64 v1) = W5 := ⟨_, rfl⟩
                  rw [hW5] at HN1
                  rw [hW5]
                  clear HHE HHE2 t1 fi hW5 HC8 HI8 HCD HI1
                  have HA5 := Lib.hid (HALL.out _ HN1.out.rr.below)
                  obtain ⟨c0, c1, c2, c6, c8⟩ := HA5.out.2.1
                  have i2 := (HA5.out.2.2.2.2.2.cell (p := ⟨ib, off + (k * 3 + 2), none⟩) HIC.out.1).trans HIC.out.2.2
                  simp only [← Nat.add_assoc] at i2
                  have HGT : Hid ((((C.latches.take k).map (latB MM) ++ (C.latches.drop k).map (latA MM)).set k (mvX MM x0, v1, x2))[k]? = some (mvX MM x0, v1, x2)) := Lib.hid (List.getElem?_set_self (by rw [HLL.out]; exact hlt))
                  by_cases hbig : 1 < x2
                  · obtain rfl : x2 = x0 := by omega
                    obtain ⟨W6, hW6⟩ : ∃ W6, W5.drew = W6 := ⟨_, rfl⟩
                    have hN6 := HN1.out.drew
                    rw [hW6] at hN6
                    obtain ⟨gl', capl', hvl', _, _, _, hcl, hfl, _⟩ := own_cells3 HN1.out.rr.l (by rw [List.length_set, HLL.out]; omega)
                    rw [HVi.out.2.1] at hvl'
                    injection hvl' with e1 e2 e3
                    injection e1 with e1
                    injection e1 with e1
                    subst e1
                    clear e2 e3
                    obtain ⟨t0, _, _⟩ := hcl k _ HGT.out
                    simp only at t0
                    obtain ⟨gl', capl', hvl', _, _, _, hcl6, hfl6, _⟩ := own_cells3 hN6.rr.l (by rw [List.length_set, HLL.out]; omega)
                    rw [HVi.out.2.1] at hvl'
                    injection hvl' with e1 e2 e3
                    injection e1 with e1
                    injection e1 with e1
                    subst e1
                    clear e2 e3
                    obtain ⟨_, _, t2⟩ := hcl6 k _ HGT.out
                    have f2 := hfl6 (k * 3 + 2)
                    have hN2 := hN6.setL1 (q := k) (z' := latB MM (x2, x1, x2)) HVi.out.2.1 HGT.out 2 (by omega) (mvX MM x2) (by simp [latB, encT, HV1.out])
                    rw [List.set_set, HMID.out.2] at hN2
                    have HN2 := Lib.hid hN2
                    have HT2 := Lib.hid (And.intro t2 f2)
                    have d2 := (HOC.out _ HN1.out.rr.box).2
                    have HW6 := Lib.hid hW6
                    clear hcl hfl hcl6 hfl6 hN6 hN2 t2 f2 hW6
                    obtain ⟨v0, hv0⟩ : ∃ v, mvX MM x2 = v := ⟨_, rfl⟩
                    rw [hv0] at t0 HN2 HT2
                    clear hv0
                    go_upto_region 24 with (fail)
                    go_still_tail 11, (by kernel_rfl)
                    change wpList _ _ _ _ _ W5.drew
                    rw [HW6.out]
                    obtain ⟨t2, f2⟩ := HT2.out
                    go_wp2
                    go_roundg (nL - (k + 1))
                    case measure => omega
                    case rel => exact ⟨k + 1, by omega, rfl, by go_num, HN2.out⟩
                  · have hx2v : mvX MM x2 = x2 := by
                      have : x2 = 0 ∨ x2 = 1 := by omega
                      rcases this with rfl | rfl
                      · exact HZO.out.1
                      · exact HZO.out.2
                    have hN2 := HN1.out
                    have he : (mvX MM x0, v1, x2) = latB MM (x0, x1, x2) := by
                      unfold latB
                      rw [HV1.out, hx2v]
                    rw [he, HMID.out.2] at hN2
                    have HN2 := Lib.hid hN2
                    clear hN2 he hx2v
                    go_wp2
                    go_roundg (nL - (k + 1))
                    case measure => omega
                    case rel => exact ⟨k + 1, by omega, rfl, by go_num, HN2.out⟩
                · have hke : nL = k := by omega
                  have HE4 : Hid (B0 W0 wr Bc gm bo cx OUT (bldB C O) MM UV (C.inputs.map (mvX MM)) (C.latches.map (latB MM)) C us) := Lib.hid (by
                    have := HT.out
                    rwa [List.take_of_length_le (by rw [HNL.out, hke]; exact Nat.le_refl _), List.drop_eq_nil_of_le (by rw [HNL.out, hke]; exact Nat.le_refl _), List.map_nil, List.append_nil] at this)
                  have hk1 : ¬ (k : Int) < (nL : Int) := by omega
                  clear HT hke HA
                  go_wp2
                  clear c0 c1 c2 c6 c8
                  obtain ⟨WD, hWD⟩ : ∃ WD, wr.drew = WD := ⟨_, rfl⟩
                  have hTD := HE4.out.drew
                  rw [hWD] at hTD
                  have HWD := Lib.hid hWD
                  have HTD := Lib.hid hTD
                  clear hTD hWD
                  obtain ⟨F1, f1, f2⟩ := HTD.out.bld
                  have HMAX := Lib.hid (rMax_any WD cx (bldB C O) F1 f1)
                  obtain ⟨gvb, hbm, hFe⟩ := f1
                  have HGC : Hid (∀ wz, Below WD.heap.size WD wz → wz.cell? ⟨cx, 2, none⟩ = some gvb) := Lib.hid (fun wz hb => (hbm.below hb).box.cell 2)
                  obtain ⟨Ab, kb0, hgv⟩ := own_slice_k hbm.row
                  obtain ⟨nb, hnb⟩ : ∃ n, (bldB C O).g.length = n := ⟨_, rfl⟩
                  rw [hnb] at hgv
                  subst hgv
                  have HGR : Hid (∀ wz : World, (∀ k, k ≠ bo → k < WD.heap.size → UV.j.ownBlock ≠ some k → wz.heap[k]? = WD.heap[k]?) → wz.ownsRow (w.heap.size + 1 + 1) 80 3 (.slice Ab nb kb0) (bldB C O).tris.length ((bldB C O).tris.flatMap encT)) := Lib.hid (fun wz hk => by
                    have hr := own_of_block (w' := wz) hbm.row (fun g hg => hk g (fun e => (f2 g (by rw [hFe]; exact .inr hg)).2.2.1 e) (hbm.row.lt g hg).2 (f2 g (by rw [hFe]; exact .inr hg)).2.2.2.2.2.2.1)
                    rw [tris_len]
                    refine own_raise hr fun g hg => ?_
                    have h1 := (f2 g (by rw [hFe]; exact .inr hg)).1
                    have h2 := HSZ.out.1
                    have h3 := HCX.out
                    omega)
                  clear hbm hFe f2 hnb
                  obtain ⟨last, hlast⟩ : ∃ l : Nat, (bldB C O).last = l := ⟨_, rfl⟩
                  rw [hlast] at HMAX
                  have HLAST := Lib.hid hlast
                  clear hlast
                  go_upto_region 25 with (fail)
                  refine wp_region_T (by kernel_rfl) (fun w' => w'.cell? ⟨cx, 2, none⟩ = some (.slice Ab nb kb0)) 10 ?_
                  rw [HWD.out]
                  have hHeld := HGC.out WD (Below.refl _ _)
                  refine wpAnyT_take (i := 0) (v := ?v0r25q11) rfl (by kernel_rfl) (fun _ _ _ h => h) (by rfl) hHeld ?h0r25q11 ?_
                  case h0r25q11 => (intro w' hSw; (try dsimp only at hSw); go_simp; try with_reducible rfl)
                  (try simp only [Act.put, List.setIfInBounds_toArray])
                  refine wpAnyT_take (i := 2) (v := ?v2r25q12) rfl (by kernel_rfl) (fun _ _ _ h => h) (by rfl) hHeld ?h2r25q12 ?_
                  case h2r25q12 => (intro w' hSw; (try dsimp only at hSw); go_simp; try with_reducible rfl)
                  (try simp only [Act.put])
                  refine wpAnyT_take (i := 3) (v := ?v3r25q12) rfl (by kernel_rfl) (fun _ _ _ h => h) (by rfl) hHeld ?h3r25q12 ?_
                  case h3r25q12 => (intro w' hSw; (try dsimp only at hSw); go_simp; try with_reducible rfl)
                  (try simp only [Act.put])
                  refine wpAnyT_take (i := 4) (v := ?v4r25q12) rfl (by kernel_rfl) (fun _ _ _ h => h) (by rfl) hHeld ?h4r25q12 ?_
                  case h4r25q12 => (intro w' hSw; (try dsimp only at hSw); go_simp; try with_reducible rfl)
                  (try simp only [Act.put])
                  refine wpAnyT_take (i := 5) (v := ?v5r25q12) rfl (by kernel_rfl) (fun _ _ _ h => h) (by rfl) hHeld ?h5r25q12 ?_
                  case h5r25q12 => (intro w' hSw; (try dsimp only at hSw); go_simp; try with_reducible rfl)
                  (try simp only [Act.put])
                  clear hHeld
                  refine wpAnyT_one (i := 1) rfl (by kernel_rfl) (fun K hK => ?_)
                  go_simp
                  go_at_call 97
                  refine HMAX.out.mono ?_
                  rintro e w5 ⟨rfl, hb5⟩
                  have HB5 := Lib.hid hb5
                  clear hb5
                  have HT5 := Lib.hid (HTD.out.on HB5.out)
                  have HN5 := Lib.hid (HT5.out.setB 0 (.int .i64 (last : Int)))
                  have HN6 := Lib.hid (HN5.out.setB 8 (.slice Ab nb kb0))
                  have HP5 : Hid (∀ wz, (wz = w5.setCell ⟨bo, 0, none⟩ (.int .i64 (last : Int)) ∨ wz = (w5.setCell ⟨bo, 0, none⟩ (.int .i64 (last : Int))).setCell ⟨bo, 8, none⟩ (.slice Ab nb kb0)) → wz.cell? ⟨cx, 2, none⟩ = some (.slice Ab nb kb0)) := Lib.hid (by
                    obtain ⟨F2, g1, g2⟩ := HT5.out.bld
                    have hne : cx ≠ bo := by
                      obtain ⟨gv2, g3, g4⟩ := g1
                      exact (g2 cx (by rw [g4]; exact .inl rfl)).2.2.1
                    have h5 := HGC.out w5 HB5.out
                    have e : ∀ (wy : World) (i : Nat) (u : Value), (wy.setCell ⟨bo, i, none⟩ u).heap[cx]? = wy.heap[cx]? := fun wy i u => Below.heap_setCell _ _ _ _ hne
                    rintro wz (rfl | rfl)
                    · exact (cell_heapH (e _ _ _)).trans h5
                    · exact (cell_heapH ((e _ _ _).trans (e _ _ _))).trans h5)
                  have t0 := HT5.out.rr.box.cell 0
                  have t8 := HT5.out.rr.box.cell 8
                  have f0 := Blk.frozen HT5.out.rr.box 0
                  have f8 := Blk.frozen HT5.out.rr.box 8
                  rw [← HOU.out] at t0 t8
                  simp only [List.getElem?_toArray, List.getElem?_cons_zero, List.getElem?_cons_succ] at t0 t8
                  refine hK.out _ _ (fun _ => HGC.out w5 HB5.out) ?_
                  clear hK K
                  (try simp only [Act.put, List.setIfInBounds_toArray, List.set_cons_zero, List.set_cons_succ])
                  have hHeld := HGC.out w5 HB5.out
                  refine wpAnyT_take (i := 6) (v := ?v6r25q13) rfl (by kernel_rfl) (fun _ _ _ h => h) (by rfl) hHeld ?h6r25q13 ?_
                  case h6r25q13 => (intro w' hSw; (try dsimp only at hSw); go_simp; try with_reducible rfl)
                  (try simp only [Act.put, List.setIfInBounds_toArray])
                  clear hHeld
                  refine wpAnyT_one (i := 7) rfl (by kernel_rfl) (fun K hK => ?_)
                  go_simp
                  refine hK.out _ _ (fun _ => HP5.out _ (.inl rfl)) ?_
                  clear hK K
                  (try simp only [Act.put, List.setIfInBounds_toArray, List.set_cons_zero, List.set_cons_succ])
                  have hHeld := HP5.out _ (.inl rfl)
                  refine wpAnyT_take (i := 8) (v := ?v8r25q14) rfl (by kernel_rfl) (fun _ _ _ h => h) (by rfl) hHeld ?h8r25q14 ?_
                  case h8r25q14 => (intro w' hSw; (try dsimp only at hSw); go_simp; try with_reducible rfl)
                  (try simp only [Act.put, List.setIfInBounds_toArray])
                  clear hHeld
                  refine wpAnyT_one (i := 9) rfl (by kernel_rfl) (fun K hK => ?_)
                  go_simp
                  refine hK.out _ _ (fun _ => HP5.out _ (.inr rfl)) ?_
                  clear hK K
                  (try simp only [Act.put, List.setIfInBounds_toArray, List.set_cons_zero, List.set_cons_succ])
                  refine wpAnyT_done (by kernel_rfl) ?_
                  clear t0 t8 f0 f8 HP5
                  obtain ⟨OU6, hOU6⟩ : ∃ OU6, (OUT.setIfInBounds 0 (.int .i64 (last : Int))).setIfInBounds 8 (.slice Ab nb kb0) = OU6 := ⟨_, rfl⟩
                  obtain ⟨W6, hW6⟩ : ∃ W6, (w5.setCell ⟨bo, 0, none⟩ (.int .i64 (last : Int))).setCell ⟨bo, 8, none⟩ (.slice Ab nb kb0) = W6 := ⟨_, rfl⟩
                  have hN6 := HN6.out
                  rw [hOU6, hW6] at hN6
                  rw [hW6]
                  have HO6 := Lib.hid hOU6
                  have HBO : Hid (∀ k, k ≠ bo → k < WD.heap.size → W6.heap[k]? = WD.heap[k]?) := Lib.hid (fun k hk hl => by
                    rw [← hW6]
                    exact (Below.heap_setCell _ _ _ _ hk).trans ((Below.heap_setCell _ _ _ _ hk).trans (HB5.out.block k hl)))
                  have HSW : Hid (WD.heap.size ≤ W6.heap.size) := Lib.hid (by
                    rw [← hW6]
                    have := HB5.out.size
                    simpa [World.setCell] using this)
                  obtain ⟨WE, hWE⟩ : ∃ WE, W6.drew = WE := ⟨_, rfl⟩
                  have hE6 := hN6.drew
                  rw [hWE] at hE6
                  have HWE := Lib.hid hWE
                  have HE6 := Lib.hid hE6
                  have HBE : Hid (∀ k, k ≠ bo → k < WD.heap.size → WE.heap[k]? = WD.heap[k]?) := Lib.hid (fun k hk hl => by rw [← hWE]; exact HBO.out k hk hl)
                  have HSE : Hid (WD.heap.size ≤ WE.heap.size) := Lib.hid (by rw [← hWE]; exact HSW.out)
                  clear HN5 HN6 HT5 HTD HB5 hOU6 hW6 hN6 hE6 hWE HMAX HBO HSW
                  have HLOK : Hid (∀ z, LitOk C z → 0 ≤ z ∧ z / 2 < (MM.length : Int)) := Lib.hid (fun z hz => by
                    have h1 := hz.1
                    have h2 := hz.2
                    rw [HMM.out] at h2
                    rw [HMK.out.2]
                    push_cast
                    omega)
                  have HLITS := Lib.hid (fun (wx : World) (v : Value) (zs : List Int) (hx : Nums wx gm MM) (hr : RowE 1 encI wx v zs) (hz : ∀ z ∈ zs, 0 ≤ z ∧ z / 2 < (MM.length : Int)) (hn : zs.length * 8 ≤ 140737488355328) => rLitsX_any wx gm MM v zs hx (by rw [HMK.out.2]; omega) HMK.out.1 hr hz hn)
                  rw [show MM.length = m + 1 from HMK.out.2] at HLITS HLOK
                  go_upto_region 26 with (fail)
                  refine wp_region_T (by kernel_rfl) (fun w' => w'.cell? ⟨w.heap.size, 3, none⟩ = some Vo ∧ w'.cell? ⟨w.heap.size, 4, none⟩ = some Vb ∧ w'.cell? ⟨w.heap.size, 5, none⟩ = some Vc ∧ w'.cell? ⟨w.heap.size, 7, none⟩ = some Vf) 24 ?_
                  rw [HWE.out]
                  have hHeld := (HALL.out _ HE6.out.rr.below).2.2.1
                  refine wpAnyT_take (i := 0) (v := ?v0r26q15) rfl (by kernel_rfl) (fun _ _ _ h => h) (by rfl) hHeld ?h0r26q15 ?_
                  case h0r26q15 => (intro w' hSw; (try dsimp only at hSw); go_simp; try with_reducible rfl)
                  (try simp only [Act.put, List.setIfInBounds_toArray])
                  refine wpAnyT_take (i := 1) (v := ?v1r26q15) rfl (by kernel_rfl) (fun _ _ _ h => h) (by rfl) hHeld ?h1r26q15 ?_
                  case h1r26q15 => (intro w' hSw; (try dsimp only at hSw); go_simp; try with_reducible rfl)
                  (try simp only [Act.put])
                  refine wpAnyT_take (i := 2) (v := ?v2r26q15) rfl (by kernel_rfl) (fun _ _ _ h => h) (by rfl) hHeld ?h2r26q15 ?_
                  case h2r26q15 => (intro w' hSw; (try dsimp only at hSw); go_simp; try with_reducible rfl)
                  (try simp only [Act.put])
                  refine wpAnyT_take (i := 4) (v := ?v4r26q16) rfl (by kernel_rfl) (fun _ _ _ h => h) (by rfl) hHeld ?h4r26q16 ?_
                  case h4r26q16 => (intro w' hSw; (try dsimp only at hSw); go_simp; try with_reducible rfl)
                  (try simp only [Act.put])
                  refine wpAnyT_take (i := 5) (v := ?v5r26q16) rfl (by kernel_rfl) (fun _ _ _ h => h) (by rfl) hHeld ?h5r26q16 ?_
                  case h5r26q16 => (intro w' hSw; (try dsimp only at hSw); go_simp; try with_reducible rfl)
                  (try simp only [Act.put])
                  refine wpAnyT_take (i := 6) (v := ?v6r26q16) rfl (by kernel_rfl) (fun _ _ _ h => h) (by rfl) hHeld ?h6r26q16 ?_
                  case h6r26q16 => (intro w' hSw; (try dsimp only at hSw); go_simp; try with_reducible rfl)
                  (try simp only [Act.put])
                  refine wpAnyT_take (i := 8) (v := ?v8r26q17) rfl (by kernel_rfl) (fun _ _ _ h => h) (by rfl) hHeld ?h8r26q17 ?_
                  case h8r26q17 => (intro w' hSw; (try dsimp only at hSw); go_simp; try with_reducible rfl)
                  (try simp only [Act.put])
                  refine wpAnyT_take (i := 9) (v := ?v9r26q17) rfl (by kernel_rfl) (fun _ _ _ h => h) (by rfl) hHeld ?h9r26q17 ?_
                  case h9r26q17 => (intro w' hSw; (try dsimp only at hSw); go_simp; try with_reducible rfl)
                  (try simp only [Act.put])
                  refine wpAnyT_take (i := 10) (v := ?v10r26q17) rfl (by kernel_rfl) (fun _ _ _ h => h) (by rfl) hHeld ?h10r26q17 ?_
                  case h10r26q17 => (intro w' hSw; (try dsimp only at hSw); go_simp; try with_reducible rfl)
                  (try simp only [Act.put])
                  refine wpAnyT_take (i := 12) (v := ?v12r26q18) rfl (by kernel_rfl) (fun _ _ _ h => h) (by rfl) hHeld ?h12r26q18 ?_
                  case h12r26q18 => (intro w' hSw; (try dsimp only at hSw); go_simp; try with_reducible rfl)
                  (try simp only [Act.put])
                  refine wpAnyT_take (i := 13) (v := ?v13r26q18) rfl (by kernel_rfl) (fun _ _ _ h => h) (by rfl) hHeld ?h13r26q18 ?_
                  case h13r26q18 => (intro w' hSw; (try dsimp only at hSw); go_simp; try with_reducible rfl)
                  (try simp only [Act.put])
                  refine wpAnyT_take (i := 14) (v := ?v14r26q18) rfl (by kernel_rfl) (fun _ _ _ h => h) (by rfl) hHeld ?h14r26q18 ?_
                  case h14r26q18 => (intro w' hSw; (try dsimp only at hSw); go_simp; try with_reducible rfl)
                  (try simp only [Act.put])
                  clear hHeld
                  refine wpAnyT_one (i := 3) rfl (by kernel_rfl) (fun K hK => ?_)
                  go_simp
                  go_at_call 57
                  refine (HLITS.out WE Vo C.outputs HE6.out.rr.nums (HALL.out _ HE6.out.rr.below).2.2.2.1.o (fun z hz => HLOK.out z (HRT.out.o z hz)) HRM.out.o).mono ?_
                  rintro e wl0 ⟨v9, rfl, h9, hb⟩
                  have h9b := own_base h9 (B' := Bc) (by have := HE6.out.rr.box.lt; have := HE6.out.rr.bol; omega)
                  obtain ⟨Bo, ko, rfl⟩ := own_slice h9b
                  have HR0 := Lib.hid h9b
                  have HL0 := Lib.hid (HE6.out.on hb)
                  have HLB0 := Lib.hid hb
                  clear h9 h9b hb
                  refine hK.out _ _ (fun _ => (HALL.out _ HL0.out.rr.below).2.2.1) ?_
                  clear hK K
                  (try simp only [Act.put, List.setIfInBounds_toArray, List.set_cons_zero, List.set_cons_succ])
                  have hHeld := (HALL.out _ HL0.out.rr.below).2.2.1
                  refine wpAnyT_take (i := 16) (v := ?v16r26q19) rfl (by kernel_rfl) (fun _ _ _ h => h) (by rfl) hHeld ?h16r26q19 ?_
                  case h16r26q19 => (intro w' hSw; (try dsimp only at hSw); go_simp; try with_reducible rfl)
                  (try simp only [Act.put, List.setIfInBounds_toArray])
                  clear hHeld
                  refine wpAnyT_one (i := 7) rfl (by kernel_rfl) (fun K hK => ?_)
                  go_simp
                  go_at_call 57
                  refine (HLITS.out wl0 Vb C.bads HL0.out.rr.nums (HALL.out _ HL0.out.rr.below).2.2.2.1.b (fun z hz => HLOK.out z (HRT.out.b z hz)) HRM.out.b).mono ?_
                  rintro e wl1 ⟨v9, rfl, h9, hb⟩
                  have h9b := own_base h9 (B' := Bc) (by have := HL0.out.rr.box.lt; have := HL0.out.rr.bol; omega)
                  obtain ⟨Bb, kb, rfl⟩ := own_slice h9b
                  have HR1 := Lib.hid h9b
                  have HL1 := Lib.hid (HL0.out.on hb)
                  have HLB1 := Lib.hid hb
                  clear h9 h9b hb
                  refine hK.out _ _ (fun _ => (HALL.out _ HL1.out.rr.below).2.2.1) ?_
                  clear hK K
                  (try simp only [Act.put, List.setIfInBounds_toArray, List.set_cons_zero, List.set_cons_succ])
                  refine wpAnyT_one (i := 11) rfl (by kernel_rfl) (fun K hK => ?_)
                  go_simp
                  go_at_call 57
                  refine (HLITS.out wl1 Vc C.constraints HL1.out.rr.nums (HALL.out _ HL1.out.rr.below).2.2.2.1.c (fun z hz => HLOK.out z (HRT.out.c z hz)) HRM.out.c).mono ?_
                  rintro e wl2 ⟨v9, rfl, h9, hb⟩
                  have h9b := own_base h9 (B' := Bc) (by have := HL1.out.rr.box.lt; have := HL1.out.rr.bol; omega)
                  obtain ⟨Bk, kc, rfl⟩ := own_slice h9b
                  have HR2 := Lib.hid h9b
                  have HL2 := Lib.hid (HL1.out.on hb)
                  have HLB2 := Lib.hid hb
                  clear h9 h9b hb
                  refine hK.out _ _ (fun _ => (HALL.out _ HL2.out.rr.below).2.2.1) ?_
                  clear hK K
                  (try simp only [Act.put, List.setIfInBounds_toArray, List.set_cons_zero, List.set_cons_succ])
                  refine wpAnyT_one (i := 15) rfl (by kernel_rfl) (fun K hK => ?_)
                  go_simp
                  go_at_call 57
                  refine (HLITS.out wl2 Vf C.fairness HL2.out.rr.nums (HALL.out _ HL2.out.rr.below).2.2.2.1.f (fun z hz => HLOK.out z (HRT.out.f z hz)) HRM.out.f).mono ?_
                  rintro e wl3 ⟨v9, rfl, h9, hb⟩
                  have h9b := own_base h9 (B' := Bc) (by have := HL2.out.rr.box.lt; have := HL2.out.rr.bol; omega)
                  obtain ⟨Bf, kf, rfl⟩ := own_slice h9b
                  have HR3 := Lib.hid h9b
                  have HL3 := Lib.hid (HL2.out.on hb)
                  have HLB3 := Lib.hid hb
                  clear h9 h9b hb
                  refine hK.out _ _ (fun _ => (HALL.out _ HL3.out.rr.below).2.2.1) ?_
                  clear hK K
                  (try simp only [Act.put, List.setIfInBounds_toArray, List.set_cons_zero, List.set_cons_succ])
                  have HR4 : Hid (wl3.ownsRow Bc 3 1 (.slice Bo C.outputs.length ko) C.outputs.length ((C.outputs.map (mvX MM)).map (Value.int .i64)) ∧ wl3.ownsRow Bc 3 1 (.slice Bb C.bads.length kb) C.bads.length ((C.bads.map (mvX MM)).map (Value.int .i64)) ∧ wl3.ownsRow Bc 3 1 (.slice Bk C.constraints.length kc) C.constraints.length ((C.constraints.map (mvX MM)).map (Value.int .i64)) ∧ wl3.ownsRow Bc 3 1 (.slice Bf C.fairness.length kf) C.fairness.length ((C.fairness.map (mvX MM)).map (Value.int .i64))) := Lib.hid ⟨own_below (own_below (own_below HR0.out HLB1.out) HLB2.out) HLB3.out, own_below (own_below HR1.out HLB2.out) HLB3.out, own_below HR2.out HLB3.out, HR3.out⟩
                  have HM0' := Lib.hid (HL3.out.setB 3 (.slice Bo C.outputs.length ko))
                  have HM1' := Lib.hid (HM0'.out.setB 4 (.slice Bb C.bads.length kb))
                  have HM2' := Lib.hid (HM1'.out.setB 5 (.slice Bk C.constraints.length kc))
                  have HM3' := Lib.hid (HM2'.out.setB 7 (.slice Bf C.fairness.length kf))
                  have HB26 : Hid (∀ k, k ≠ bo → k < WD.heap.size → ((((wl3.setCell ⟨bo, 3, none⟩ (.slice Bo C.outputs.length ko)).setCell ⟨bo, 4, none⟩ (.slice Bb C.bads.length kb)).setCell ⟨bo, 5, none⟩ (.slice Bk C.constraints.length kc)).setCell ⟨bo, 7, none⟩ (.slice Bf C.fairness.length kf)).heap[k]? = WD.heap[k]?) := Lib.hid (fun k hk hl => by
                    have h0 := HSE.out
                    have h1 := HLB0.out.size
                    have h2 := HLB1.out.size
                    have h3 := HLB2.out.size
                    refine ((Below.heap_setCell _ _ _ _ hk).trans ((Below.heap_setCell _ _ _ _ hk).trans ((Below.heap_setCell _ _ _ _ hk).trans (Below.heap_setCell _ _ _ _ hk)))).trans ?_
                    exact (HLB3.out.block k (by omega)).trans ((HLB2.out.block k (by omega)).trans ((HLB1.out.block k (by omega)).trans ((HLB0.out.block k (by omega)).trans (HBE.out k hk hl)))))
                  obtain ⟨cs3, hcs3, hsz3⟩ : ∃ cs, Blk wl3 bo 29 cs ∧ cs.size = 11 := ⟨OU6, HL3.out.rr.box, by rw [← HO6.out, ← HOU.out]; rfl⟩
                  have hfz := fun i => Blk.frozen hcs3 i
                  have hcell3 : ∀ i, i < 11 → ∃ u, wl3.cell? ⟨bo, i, none⟩ = some u := fun i hi => by
                    rw [hcs3.cell]
                    exact ⟨_, Array.getElem?_eq_getElem (by omega)⟩
                  obtain ⟨u3, t3⟩ := hcell3 3 (by omega)
                  obtain ⟨u4, t4⟩ := hcell3 4 (by omega)
                  obtain ⟨u5, t5⟩ := hcell3 5 (by omega)
                  obtain ⟨u7, t7⟩ := hcell3 7 (by omega)
                  have f3 := hfz 3
                  have f4 := hfz 4
                  have f5 := hfz 5
                  have f7 := hfz 7
                  clear hcs3 hsz3 hfz hcell3
                  refine wpAnyT_one (i := 17) rfl (by kernel_rfl) (fun K hK => ?_)
                  go_simp
                  refine hK.out _ _ (fun _ => (HALL.out _ HM0'.out.rr.below).2.2.1) ?_
                  clear hK K
                  (try simp only [Act.put, List.setIfInBounds_toArray, List.set_cons_zero, List.set_cons_succ])
                  have hHeld := (HALL.out _ HM0'.out.rr.below).2.2.1
                  refine wpAnyT_take (i := 18) (v := ?v18r26q20) rfl (by kernel_rfl) (fun _ _ _ h => h) (by rfl) hHeld ?h18r26q20 ?_
                  case h18r26q20 => (intro w' hSw; (try dsimp only at hSw); go_simp; try with_reducible rfl)
                  (try simp only [Act.put, List.setIfInBounds_toArray])
                  clear hHeld
                  refine wpAnyT_one (i := 19) rfl (by kernel_rfl) (fun K hK => ?_)
                  go_simp
                  refine hK.out _ _ (fun _ => (HALL.out _ HM1'.out.rr.below).2.2.1) ?_
                  clear hK K
                  (try simp only [Act.put, List.setIfInBounds_toArray, List.set_cons_zero, List.set_cons_succ])
                  have hHeld := (HALL.out _ HM1'.out.rr.below).2.2.1
                  refine wpAnyT_take (i := 20) (v := ?v20r26q21) rfl (by kernel_rfl) (fun _ _ _ h => h) (by rfl) hHeld ?h20r26q21 ?_
                  case h20r26q21 => (intro w' hSw; (try dsimp only at hSw); go_simp; try with_reducible rfl)
                  (try simp only [Act.put, List.setIfInBounds_toArray])
                  clear hHeld
                  refine wpAnyT_one (i := 21) rfl (by kernel_rfl) (fun K hK => ?_)
                  go_simp
                  refine hK.out _ _ (fun _ => (HALL.out _ HM2'.out.rr.below).2.2.1) ?_
                  clear hK K
                  (try simp only [Act.put, List.setIfInBounds_toArray, List.set_cons_zero, List.set_cons_succ])
                  have hHeld := (HALL.out _ HM2'.out.rr.below).2.2.1
                  refine wpAnyT_take (i := 22) (v := ?v22r26q22) rfl (by kernel_rfl) (fun _ _ _ h => h) (by rfl) hHeld ?h22r26q22 ?_
                  case h22r26q22 => (intro w' hSw; (try dsimp only at hSw); go_simp; try with_reducible rfl)
                  (try simp only [Act.put, List.setIfInBounds_toArray])
                  clear hHeld
                  refine wpAnyT_one (i := 23) rfl (by kernel_rfl) (fun K hK => ?_)
                  go_simp
                  refine hK.out _ _ (fun _ => (HALL.out _ HM3'.out.rr.below).2.2.1) ?_
                  clear hK K
                  (try simp only [Act.put, List.setIfInBounds_toArray, List.set_cons_zero, List.set_cons_succ])
                  refine wpAnyT_done (by kernel_rfl) ?_
                  clear t3 t4 t5 t7 f3 f4 f5 f7 HR0 HR1 HR2 HR3
                  obtain ⟨OU2, hOU2⟩ : ∃ OU2, ((((OU6.setIfInBounds 3 (.slice Bo C.outputs.length ko)).setIfInBounds 4 (.slice Bb C.bads.length kb)).setIfInBounds 5 (.slice Bk C.constraints.length kc)).setIfInBounds 7 (.slice Bf C.fairness.length kf)) = OU2 := ⟨_, rfl⟩
                  have HFIN : Hid (OU2 = #[.int .i64 (last : Int), .slice A0 nI k0, .slice A1 nL k1, .slice Bo C.outputs.length ko, .slice Bb C.bads.length kb, .slice Bk C.constraints.length kc, .slice A5 nJ k5, .slice Bf C.fairness.length kf, .slice Ab nb kb0, .slice A8 n8 k8, .slice A9 n9 k9]) := Lib.hid (by
                    rw [← hOU2, ← HO6.out, ← HOU.out]
                    simp [List.setIfInBounds_toArray])
                  obtain ⟨X7, hX7⟩ : ∃ X7, ((((wl3.setCell ⟨bo, 3, none⟩ (.slice Bo C.outputs.length ko)).setCell ⟨bo, 4, none⟩ (.slice Bb C.bads.length kb)).setCell ⟨bo, 5, none⟩ (.slice Bk C.constraints.length kc)).setCell ⟨bo, 7, none⟩ (.slice Bf C.fairness.length kf)) = X7 := ⟨_, rfl⟩
                  have hM := HM3'.out
                  rw [hOU2, hX7] at hM
                  rw [hX7] at HB26 ⊢
                  have HR7 : Hid (X7.ownsRow Bc 3 1 (.slice Bo C.outputs.length ko) C.outputs.length ((C.outputs.map (mvX MM)).map (Value.int .i64)) ∧ X7.ownsRow Bc 3 1 (.slice Bb C.bads.length kb) C.bads.length ((C.bads.map (mvX MM)).map (Value.int .i64)) ∧ X7.ownsRow Bc 3 1 (.slice Bk C.constraints.length kc) C.constraints.length ((C.constraints.map (mvX MM)).map (Value.int .i64)) ∧ X7.ownsRow Bc 3 1 (.slice Bf C.fairness.length kf) C.fairness.length ((C.fairness.map (mvX MM)).map (Value.int .i64))) := Lib.hid (by
                    rw [← hX7]
                    have hc := HL3.out.rr.box
                    have key : ∀ {v : Value} {n : Nat} {xs : List Value}, wl3.ownsRow Bc 3 1 v n xs → ((((wl3.setCell ⟨bo, 3, none⟩ (.slice Bo C.outputs.length ko)).setCell ⟨bo, 4, none⟩ (.slice Bb C.bads.length kb)).setCell ⟨bo, 5, none⟩ (.slice Bk C.constraints.length kc)).setCell ⟨bo, 7, none⟩ (.slice Bf C.fairness.length kf)).ownsRow Bc 3 1 v n xs := fun hr =>
                      own_far (own_far (own_far (own_far hr hc (by decide) _ _) HM0'.out.rr.box (by decide) _ _) HM1'.out.rr.box (by decide) _ _) HM2'.out.rr.box (by decide) _ _
                    exact ⟨key HR4.out.1, key HR4.out.2.1, key HR4.out.2.2.1, key HR4.out.2.2.2⟩)
                  have HM7 := Lib.hid hM
                  have HBK7 := HB26
                  clear HM0' HM1' HM2' HM3' HB26 HL0 HL1 HL2 HL3 HLB0 HLB1 HLB2 HLB3 HR4 hM hX7 hOU2 HBE HSE HE6 HWE
                  have HOC2 : Hid (∀ wz, Blk wz bo 29 OU2 → wz.cell? ⟨bo, 6, none⟩ = some (.slice A5 nJ k5)) := Lib.hid (fun wz hb => by
                    rw [HFIN.out] at hb
                    obtain ⟨d0, d1, d2, d3, d4, d5, d6, d7, d8, d9, d10⟩ := rbox_of hb
                    exact d6)
                  have HA := Lib.hid (HALL.out _ HM7.out.rr.below)
                  obtain ⟨c0, c1, c2, c6, c8⟩ := HA.out.2.1
                  go_wp2
                  clear c0 c1 c2 c6 c8 HA
                  go_loopg [14] nJ (fun j iv wx => ∃ (k : Nat) (us2 : List Value), k ≤ nJ ∧ j = nJ - k ∧ iv = .int .i64 k ∧ us2.length = nJ ∧ B0 W0 wx Bc gm bo cx OU2 (bldB C O) MM UV (C.inputs.map (mvX MM)) (C.latches.map (latB MM)) C us2 ∧ (wx.ownsRow Bc 3 1 (.slice Bo C.outputs.length ko) C.outputs.length ((C.outputs.map (mvX MM)).map (Value.int .i64)) ∧ wx.ownsRow Bc 3 1 (.slice Bb C.bads.length kb) C.bads.length ((C.bads.map (mvX MM)).map (Value.int .i64)) ∧ wx.ownsRow Bc 3 1 (.slice Bk C.constraints.length kc) C.constraints.length ((C.constraints.map (mvX MM)).map (Value.int .i64)) ∧ wx.ownsRow Bc 3 1 (.slice Bf C.fairness.length kf) C.fairness.length ((C.fairness.map (mvX MM)).map (Value.int .i64))) ∧ (∀ (i : Nat) (u : Value) (zs : List Int), i < k → us2[i]? = some u → C.justice[i]? = some zs → wx.ownsRow Bc 3 1 u zs.length ((zs.map (mvX MM)).map (Value.int .i64))) ∧ (∀ g, g ≠ bo → g < WD.heap.size → UV.j.ownBlock ≠ some g → wx.heap[g]? = WD.heap[g]?))
                  case atStart => exact ⟨0, us, Nat.zero_le _, rfl, rfl, HUL.out, HM7.out, HR7.out, fun i u zs hi => absurd hi (Nat.not_lt_zero _), fun g h1 h2 _ => HBK7.out g h1 h2⟩
                  case round =>
                    obtain ⟨k, us2, hk, hgk, rfl, hul, ht, hr4, hea, hbk⟩ := hrel
                    subst hgk
                    have HT := Lib.hid ht
                    have HR4 := Lib.hid hr4
                    have HEA := Lib.hid hea
                    have HBK := Lib.hid hbk
                    have HUL2 := Lib.hid hul
                    clear ht hr4 hea hbk hul HM7 HR7 HBK7
                    have HA := Lib.hid (HALL.out _ HT.out.rr.below)
                    obtain ⟨c0, c1, c2, c6, c8⟩ := HA.out.2.1
                    by_cases hlt : k < nJ
                    · obtain ⟨x, hx⟩ : ∃ x, C.justice[k]? = some x := ⟨_, List.getElem?_eq_getElem (by rw [HNJ.out]; exact hlt)⟩
                      obtain ⟨jb, joff, u0, e, hjb, hjc, hjr⟩ := HRJ.out k x hx
                      subst e
                      have HJB := Lib.hid hjb
                      have HXO := Lib.hid (HRT.out.j x (List.mem_of_getElem? hx))
                      have HXL := Lib.hid (HRM.out.js x (List.mem_of_getElem? hx))
                      have HX := Lib.hid hx
                      obtain ⟨WJ, hWJ⟩ : ∃ WJ, wr.drew = WJ := ⟨_, rfl⟩
                      have hTJ := HT.out.drew
                      rw [hWJ] at hTJ
                      have HWJ := Lib.hid hWJ
                      have HTJ := Lib.hid hTJ
                      have hj := HTJ.out.rr.j
                      have hvj0 := HVi.out.2.2
                      obtain ⟨gj, capj, hvj⟩ : ∃ g cap, Value.slice A5 nJ k5 = .slice (some ⟨g, 0, none⟩) nJ cap := by
                        rw [hvj0] at hj
                        rcases hj.2 with ⟨hv, hn0⟩ | ⟨g', cap', cur, hv, _⟩
                        · have := HUL2.out; omega
                        · refine ⟨g', cap', ?_⟩
                          have e : us2.length = nJ := HUL2.out
                          rw [e] at hv
                          exact hv
                      injection hvj with e1 e2 e3
                      subst e1
                      clear e2 e3 hj
                      have HJC : Hid (∀ wz, Below WJ.heap.size WJ wz → B0 W0 wz Bc gm bo cx OU2 (bldB C O) MM UV (C.inputs.map (mvX MM)) (C.latches.map (latB MM)) C us2 ∧ wz.cell? ⟨bo, 6, none⟩ = some (.slice (some ⟨gj, 0, none⟩) nJ k5) ∧ wz.cell? ⟨w.heap.size, 6, none⟩ = some (.slice (some ⟨jb, joff, none⟩) nJ cJ) ∧ wz.cell? ⟨jb, joff + k, none⟩ = some u0) := Lib.hid (fun wz hb => by
                        have h1 := HTJ.out.on hb
                        have h2 := HALL.out _ h1.rr.below
                        exact ⟨h1, HOC2.out _ h1.rr.box, h2.2.1.2.2.2.1, (h2.2.2.2.2.2.cell (p := ⟨jb, joff + k, none⟩) hjb).trans hjc⟩)
                      have HJR : Hid (∀ wz, Below WJ.heap.size WJ wz → RowE 1 encI wz u0 x) := Lib.hid (fun wz hb => by
                        have h2 := HALL.out _ (HTJ.out.on hb).rr.below
                        exact hjr.below h2.2.2.2.2.2)
                      have HRJ4 : Hid ((WJ.ownsRow Bc 3 1 (.slice Bo C.outputs.length ko) C.outputs.length ((C.outputs.map (mvX MM)).map (Value.int .i64)) ∧ WJ.ownsRow Bc 3 1 (.slice Bb C.bads.length kb) C.bads.length ((C.bads.map (mvX MM)).map (Value.int .i64)) ∧ WJ.ownsRow Bc 3 1 (.slice Bk C.constraints.length kc) C.constraints.length ((C.constraints.map (mvX MM)).map (Value.int .i64)) ∧ WJ.ownsRow Bc 3 1 (.slice Bf C.fairness.length kf) C.fairness.length ((C.fairness.map (mvX MM)).map (Value.int .i64))) ∧ (∀ (i : Nat) (u : Value) (zs : List Int), i < k → us2[i]? = some u → C.justice[i]? = some zs → WJ.ownsRow Bc 3 1 u zs.length ((zs.map (mvX MM)).map (Value.int .i64))) ∧ (∀ g, g ≠ bo → g < WD.heap.size → UV.j.ownBlock ≠ some g → WJ.heap[g]? = WD.heap[g]?)) := Lib.hid (by
                        rw [← hWJ]
                        exact ⟨⟨own_of_block HR4.out.1 fun _ _ => rfl, own_of_block HR4.out.2.1 fun _ _ => rfl, own_of_block HR4.out.2.2.1 fun _ _ => rfl, own_of_block HR4.out.2.2.2 fun _ _ => rfl⟩, fun i u zs h1 h2 h3 => own_of_block (HEA.out i u zs h1 h2 h3) fun _ _ => rfl, HBK.out⟩)
                      have hk0 : (0 : Int) ≤ (k : Int) := by omega
                      have hk1 : (k : Int) < (nJ : Int) := by omega
                      clear hx hjb hjc hjr hWJ hTJ hvj0 HA
                      go_upto_region 30 with (fail)
                      refine wp_region_T (by kernel_rfl) (fun w' => w'.cell? ⟨bo, 6, none⟩ = some (.slice (some ⟨gj, 0, none⟩) nJ k5) ∧ w'.cell? ⟨w.heap.size, 6, none⟩ = some (.slice (some ⟨jb, joff, none⟩) nJ cJ) ∧ w'.cell? ⟨jb, joff + k, none⟩ = some u0) 12 ?_
                      rw [HWJ.out]
                      have hHeld := (HJC.out _ (Below.refl _ _)).2
                      clear c0 c1 c2 c6 c8
                      refine wpAnyT_take (i := 0) (v := ?v0r30q23) rfl (by kernel_rfl) (fun _ _ _ h => h) (by rfl) hHeld ?h0r30q23 ?_
                      case h0r30q23 => (intro w' hSw; (try dsimp only at hSw); go_simp; try with_reducible rfl)
                      (try simp only [Act.put, List.setIfInBounds_toArray])
                      refine wpAnyT_take (i := 1) (v := ?v1r30q23) rfl (by kernel_rfl) (fun _ _ _ h => h) (by rfl) hHeld ?h1r30q23 ?_
                      case h1r30q23 => (intro w' hSw; (try dsimp only at hSw); go_simp; try with_reducible rfl)
                      (try simp only [Act.put])
                      refine wpAnyT_take (i := 2) (v := ?v2r30q23) rfl (by kernel_rfl) (fun _ _ _ h => h) (by rfl) hHeld ?h2r30q23 ?_
                      case h2r30q23 => (intro w' hSw; (try dsimp only at hSw); go_simp; try with_reducible rfl)
                      (try simp only [Act.put])
                      refine wpAnyT_take (i := 3) (v := ?v3r30q23) rfl (by kernel_rfl) (fun _ _ _ h => h) (by rfl) hHeld ?h3r30q23 ?_
                      case h3r30q23 => (intro w' hSw; (try dsimp only at hSw); go_simp; try with_reducible rfl)
                      (try simp only [Act.put])
                      refine wpAnyT_take (i := 4) (v := ?v4r30q23) rfl (by kernel_rfl) (fun _ _ _ h => h) (by rfl) hHeld ?h4r30q23 ?_
                      case h4r30q23 => (intro w' hSw; (try dsimp only at hSw); go_simp; try with_reducible rfl)
                      (try simp only [Act.put])
                      refine wpAnyT_take (i := 5) (v := ?v5r30q23) rfl (by kernel_rfl) (fun _ _ _ h => h) (by rfl) hHeld ?h5r30q23 ?_
                      case h5r30q23 => (intro w' hSw; (try dsimp only at hSw); go_simp; try with_reducible rfl)
                      (try simp only [Act.put])
                      refine wpAnyT_take (i := 6) (v := ?v6r30q23) rfl (by kernel_rfl) (fun _ _ _ h => h) (by rfl) hHeld ?h6r30q23 ?_
                      case h6r30q23 => (intro w' hSw; (try dsimp only at hSw); go_simp; try with_reducible rfl)
                      (try simp only [Act.put])
                      refine wpAnyT_take (i := 7) (v := ?v7r30q23) rfl (by kernel_rfl) (fun _ _ _ h => h) (by rfl) hHeld ?h7r30q23 ?_
                      case h7r30q23 => (intro w' hSw; (try dsimp only at hSw); go_simp; try with_reducible rfl)
                      (try simp only [Act.put])
                      refine wpAnyT_take (i := 8) (v := ?v8r30q23) rfl (by kernel_rfl) (fun _ _ _ h => h) (by rfl) hHeld ?h8r30q23 ?_
                      case h8r30q23 => (intro w' hSw; (try dsimp only at hSw); go_simp; try with_reducible rfl)
                      (try simp only [Act.put])
                      clear hHeld
                      refine wpAnyT_one (i := 9) rfl (by kernel_rfl) (fun K hK => ?_)
                      go_simp
                      go_at_call 57
                      refine (HLITS.out WJ u0 x HTJ.out.rr.nums (HJR.out _ (Below.refl _ _)) (fun z hz => HLOK.out z (HXO.out z hz)) HXL.out).mono ?_
                      rintro e w9 ⟨v9, rfl, h9, hb9⟩
                      have h9b := own_base h9 (B' := Bc) (by have := HTJ.out.rr.box.lt; have := HTJ.out.rr.bol; omega)
                      obtain ⟨Bn, kn, rfl⟩ := own_slice h9b
                      have HO9 := Lib.hid h9b
                      have HT9 := Lib.hid (HTJ.out.on hb9)
                      have HB9 := Lib.hid hb9
                      have HH9 := Lib.hid (HJC.out _ hb9).2
                      clear h9 h9b hb9
                      have hj9 := HT9.out.rr.j
                      rw [HVi.out.2.2, HUL2.out] at hj9
                      obtain ⟨hgB, hgb, hfz, hcl, hset⟩ := own_set1 hj9 hlt (.slice Bn x.length kn)
                      obtain ⟨uk, huk⟩ : ∃ u, us2[k]? = some u := ⟨_, List.getElem?_eq_getElem (by rw [HUL2.out]; exact hlt)⟩
                      rw [huk] at hcl
                      have fz := hfz k
                      have HN9 := Lib.hid (HT9.out.setJ (q := k) HVi.out.2.2 (by rw [HUL2.out]; exact hlt) (.slice Bn x.length kn))
                      have HCS9 := Lib.hid hgb
                      have HGB := Lib.hid hgB
                      have HHN : Hid ((w9.setCell ⟨gj, k, none⟩ (.slice Bn x.length kn)).cell? ⟨bo, 6, none⟩ = some (.slice (some ⟨gj, 0, none⟩) nJ k5) ∧ (w9.setCell ⟨gj, k, none⟩ (.slice Bn x.length kn)).cell? ⟨w.heap.size, 6, none⟩ = some (.slice (some ⟨jb, joff, none⟩) nJ cJ) ∧ (w9.setCell ⟨gj, k, none⟩ (.slice Bn x.length kn)).cell? ⟨jb, joff + k, none⟩ = some u0) := Lib.hid (by
                        have h2 := HALL.out _ HN9.out.rr.below
                        have hgB2 := HGB.out
                        have hne : jb ≠ gj := fun e => by
                          have h3 := HSZ.out
                          have h4 := HJB.out
                          omega
                        exact ⟨HOC2.out _ HN9.out.rr.box, h2.2.1.2.2.2.1, (cell_heapH (Below.heap_setCell _ _ _ _ hne)).trans HH9.out.2.2⟩)
                      clear hj9 hgB hgb hfz hset huk
                      refine hK.out _ _ (fun _ => HH9.out) ?_
                      clear hK K
                      (try simp only [Act.put, List.setIfInBounds_toArray, List.set_cons_zero, List.set_cons_succ])
                      have hHeld := HH9.out
                      refine wpAnyT_take (i := 10) (v := ?v10r30q24) rfl (by kernel_rfl) (fun _ _ _ h => h) (by rfl) hHeld ?h10r30q24 ?_
                      case h10r30q24 => (intro w' hSw; (try dsimp only at hSw); go_simp; try with_reducible rfl)
                      (try simp only [Act.put, List.setIfInBounds_toArray])
                      clear hHeld
                      refine wpAnyT_one (i := 11) rfl (by kernel_rfl) (fun K hK => ?_)
                      go_simp
                      refine hK.out _ _ (fun _ => HHN.out) ?_
                      clear hK K
                      (try simp only [Act.put, List.setIfInBounds_toArray, List.set_cons_zero, List.set_cons_succ])
                      refine wpAnyT_done (by kernel_rfl) ?_
                      have HRN : Hid ((w9.setCell ⟨gj, k, none⟩ (.slice Bn x.length kn)).ownsRow Bc 3 1 (.slice Bo C.outputs.length ko) C.outputs.length ((C.outputs.map (mvX MM)).map (Value.int .i64)) ∧ (w9.setCell ⟨gj, k, none⟩ (.slice Bn x.length kn)).ownsRow Bc 3 1 (.slice Bb C.bads.length kb) C.bads.length ((C.bads.map (mvX MM)).map (Value.int .i64)) ∧ (w9.setCell ⟨gj, k, none⟩ (.slice Bn x.length kn)).ownsRow Bc 3 1 (.slice Bk C.constraints.length kc) C.constraints.length ((C.constraints.map (mvX MM)).map (Value.int .i64)) ∧ (w9.setCell ⟨gj, k, none⟩ (.slice Bn x.length kn)).ownsRow Bc 3 1 (.slice Bf C.fairness.length kf) C.fairness.length ((C.fairness.map (mvX MM)).map (Value.int .i64))) := Lib.hid (by
                        obtain ⟨cs, hcs⟩ := HCS9.out
                        exact ⟨own_far (own_below HRJ4.out.1.1 HB9.out) hcs (by decide) _ _, own_far (own_below HRJ4.out.1.2.1 HB9.out) hcs (by decide) _ _, own_far (own_below HRJ4.out.1.2.2.1 HB9.out) hcs (by decide) _ _, own_far (own_below HRJ4.out.1.2.2.2 HB9.out) hcs (by decide) _ _⟩)
                      have HEN : Hid (∀ (i : Nat) (u : Value) (zs : List Int), i < (k + 1) → (us2.set k (.slice Bn x.length kn))[i]? = some u → C.justice[i]? = some zs → (w9.setCell ⟨gj, k, none⟩ (.slice Bn x.length kn)).ownsRow Bc 3 1 u zs.length ((zs.map (mvX MM)).map (Value.int .i64))) := Lib.hid (fun i u zs h1 h2 h3 => by
                        obtain ⟨cs, hcs⟩ := HCS9.out
                        rw [List.getElem?_set] at h2
                        by_cases e : k = i
                        · subst e
                          rw [if_pos rfl, if_pos (by rw [HUL2.out]; exact hlt)] at h2
                          injection h2 with h2
                          rw [HX.out] at h3
                          injection h3 with h3
                          subst h2 h3
                          exact own_far HO9.out hcs (by decide) _ _
                        · rw [if_neg e] at h2
                          exact own_far (own_below (HRJ4.out.2.1 i u zs (by omega) h2 h3) HB9.out) hcs (by decide) _ _)
                      have HBN : Hid (∀ g, g ≠ bo → g < WD.heap.size → UV.j.ownBlock ≠ some g → (w9.setCell ⟨gj, k, none⟩ (.slice Bn x.length kn)).heap[g]? = WD.heap[g]?) := Lib.hid (fun g h1 h2 h3 => by
                        have hne : g ≠ gj := fun e => h3 (by rw [HVi.out.2.2, e]; rfl)
                        have e1 := HRJ4.out.2.2 g h1 h2 h3
                        have hl : g < WJ.heap.size := by
                          have : WD.heap[g]? ≠ none := by
                            rw [Array.getElem?_eq_getElem h2]
                            simp
                          rw [← e1] at this
                          exact (Array.getElem?_eq_some_iff.1 (Option.ne_none_iff_exists'.1 this).choose_spec).1
                        exact (Below.heap_setCell _ _ _ _ hne).trans ((HB9.out.block g hl).trans e1))
                      clear hcl fz
                      go_wp2
                      go_roundg (nJ - (k + 1))
                      case measure => omega
                      case rel => first
                        | exact ⟨k + 1, _, by omega, rfl, by go_num, by rw [List.length_set]; exact HUL2.out, HN9.out, HRN.out, HEN.out, HBN.out⟩
                        | ((repeat apply Exists.intro); exact ⟨⟨k + 1, _, by omega, rfl, by go_num, by rw [List.length_set]; exact HUL2.out, HN9.out, HRN.out, HEN.out, HBN.out⟩, rfl⟩)
                    · have hke : nJ = k := by omega
                      have hk1 : ¬ (k : Int) < (nJ : Int) := by omega
                      have HRES := Lib.hid HA.out.2.2.2.2.1
                      have HLD : Hid (wr.heap[bo]? = some (.cells OU2 29 (0, 0))) := Lib.hid HT.out.rr.box
                      have HONE : Hid (OU2.all (·.oneCell') = true) := Lib.hid (by rw [HFIN.out]; simp [Value.oneCell'])
                      have HSI : Hid ((Try.prog.info? 29).map (·.size) = some OU2.size) := Lib.hid (by rw [HFIN.out]; kernel_rfl)
                      go_wp2_with (first
                        | (refine wpList_load_row rfl 29 (.tmp 8) rfl bo rfl 29 OU2 (0, 0) _ HLD.out Try.underlying29 rfl HSI.out ?_)
                        | (refine wpList_store_row rfl 29 (.tmp 4) (.tmp 208) rfl (w.heap.size + 1) OU2 rfl rfl 29 _ HRES.out HSI.out (by rw [HFIN.out]; rfl) HONE.out ?_))
                      have hw9 : Blk (wr.setRow (w.heap.size + 1) OU2) (w.heap.size + 1) 29 OU2 := setRow_heap wr (w.heap.size + 1) _ OU2 _ _ HRES.out
                      refine bodyPost_ret (results_cell_oneH (fn := Try.f40) (p := 4) (q := 5) rfl _ _ (w.heap.size + 1) 29 OU2 (0, 0) _ rfl hw9 Try.underlying29 rfl HSI.out (.slice (some ⟨gm, 0, none⟩) (m + 1) (m + 1)) rfl) rfl ?_
                      have hoth : ∀ k, k ≠ w.heap.size + 1 → (wr.setRow (w.heap.size + 1) OU2).heap[k]? = wr.heap[k]? := fun k hk => setRow_other _ _ _ _ hk
                      have hz := HSZ.out
                      have ho : ∀ {t : TypeId} {k n : Nat} {v : Value} {xs : List Value}, wr.ownsRow Bc t k v n xs → (wr.setRow (w.heap.size + 1) OU2).ownsRow w.heap.size t k v n xs := fun hr =>
                        own_base (own_of_block hr fun g hg => hoth g (fun e => by have := (hr.lt g hg).1; omega)) (by omega)
                      have hbel := HA.out.2.2.2.2.2
                      have hrr := HT.out.rr
                      rw [← HUV.out] at hrr
                      refine ⟨⟨hbel.os, hbel.tape, hbel.output, by rw [size_setRow]; exact hbel.size, fun k hk => (hoth _ (by omega)).trans (hbel.block k hk)⟩, ⟨.slice A0 nI k0, .slice A1 nL k1, .slice Bo C.outputs.length ko, .slice Bb C.bads.length kb, .slice Bk C.constraints.length kc, .slice A5 nJ k5, .slice Bf C.fairness.length kf, .slice Ab nb kb0, .slice A8 n8 k8, .slice A9 n9 k9⟩, us2, gm, ?_, by omega, ⟨?_, ?_, ?_, ?_, ?_, ⟨?_, ?_, ?_⟩, ?_, ?_, ?_, ?_⟩, ?_⟩
                      · rw [HFIN.out, show (bldX C O).max = (last : Int) from congrArg (fun n : Nat => (n : Int)) HLAST.out]
                      · show World.ownsRow _ _ _ _ _ (C.inputs.map (mvX (bldM C O))).length ((C.inputs.map (mvX (bldM C O))).flatMap encI)
                        rw [flat_ints, HMB.out]
                        exact ho hrr.i
                      · show World.ownsRow _ _ _ _ _ (C.latches.map (latB (bldM C O))).length ((C.latches.map (latB (bldM C O))).flatMap encT)
                        rw [HMB.out]
                        exact ho hrr.l
                      · show World.ownsRow _ _ _ _ _ (C.outputs.map (mvX (bldM C O))).length ((C.outputs.map (mvX (bldM C O))).flatMap encI)
                        rw [flat_ints, HMB.out, List.length_map]
                        exact ho HR4.out.1
                      · show World.ownsRow _ _ _ _ _ (C.bads.map (mvX (bldM C O))).length ((C.bads.map (mvX (bldM C O))).flatMap encI)
                        rw [flat_ints, HMB.out, List.length_map]
                        exact ho HR4.out.2.1
                      · show World.ownsRow _ _ _ _ _ (C.constraints.map (mvX (bldM C O))).length ((C.constraints.map (mvX (bldM C O))).flatMap encI)
                        rw [flat_ints, HMB.out, List.length_map]
                        exact ho HR4.out.2.2.1
                      · show us2.length = (C.justice.map _).length
                        rw [List.length_map, HNJ.out]
                        exact HUL2.out
                      · exact ho hrr.j
                      · intro i u zs hu hz2
                        have hz3 : (C.justice.map (fun zs => zs.map (mvX (bldM C O))))[i]? = some zs := hz2
                        rw [List.getElem?_map, HMB.out] at hz3
                        cases hj : C.justice[i]? with
                        | none => rw [hj] at hz3; cases hz3
                        | some z0 =>
                          rw [hj] at hz3
                          simp only [Option.map_some, Option.some.injEq] at hz3
                          subst hz3
                          have hi : i < k := by rw [← hke, ← HNJ.out]; exact (List.getElem?_eq_some_iff.1 hj).1
                          have := ho (HEA.out i u z0 hi hu hj)
                          rw [flat_ints, List.length_map]
                          exact this
                      · show World.ownsRow _ _ _ _ _ (C.fairness.map (mvX (bldM C O))).length ((C.fairness.map (mvX (bldM C O))).flatMap encI)
                        rw [flat_ints, HMB.out, List.length_map]
                        exact ho HR4.out.2.2.2
                      · have hg := HGR.out wr (fun g h1 h2 h3 => HBK.out g h1 h2 h3)
                        exact own_base (own_of_block hg fun g hg2 => hoth g (fun e => by have := (hg.lt g hg2).1; omega)) (by omega)
                      · exact ho hrr.s
                      · exact ho hrr.t
                      · rw [HMB.out]
                        exact (hoth gm (by omega)).trans hrr.nums
end Go.Proofs.Ytilbgopdciiadaa

/- The document's own Renumber of a circuit that its Check takes: the renumbered circuit and the map. -/
import Derived.Test.YtjakckfmdfpekaaRnC
import Derived.StillTailTactics
namespace Go.Proofs.Ytjakckfmdfpekaa
open Go.RowKit

theorem sl_formR {E : Type} {k : Nat} {enc : E → List Value} {w : World} {v : Value} {zs : List E} (h : RowE k enc w v zs) : ∃ A n c, v = .slice A n c := by
  obtain ⟨A, c, e, _⟩ := h
  exact ⟨A, _, c, e⟩
theorem sl_formRL {w : World} {v : Value} {zss : List (List Int)} (h : Lists w v zss) : ∃ A n c, v = .slice A n c := by
  obtain ⟨A, c, e, _⟩ := h.at_
  exact ⟨A, _, c, e⟩
set_option maxHeartbeats 20000000 in
set_option maxRecDepth 100000 in
theorem rRenumber_ok (w : World) (V : CV) (C : Circ) (h : C.In w V) (ok : C.Ok) (rm : C.Room) (htn : ∀ s ∈ C.comments, s.size ≤ maxLen) (hz : (checkR C).2 = 0) :
    Calls Try.prog 19 #[V.val C.max] w fun e w' => Below w.heap.size w w' ∧ ∃ V' us vm out, e = .returned (.tuple #[CV.val V' (renC C out).max, vm, .int .i64 0]) ∧ Greedy (usesC C) out ∧ out.length = C.ands.length ∧
      CopB w' w.heap.size (renC C out) us V' ∧ w'.ownsRow w.heap.size 3 1 vm (newM C out).length ((newM C out).map (Value.int .i64)) := by
  have HRT := Lib.hid (right_of hz)
  have HFI := Lib.hid (fine_of hz)
  have HRM := Lib.hid rm
  obtain ⟨AI, cI, eI, _, _, _⟩ := h.i
  obtain ⟨AL, cL, eL, _, _, _⟩ := h.l
  obtain ⟨AA, cA, eA, _, _, _⟩ := h.a
  obtain ⟨AJ, cJ, eJ, hjl, _⟩ := h.j.at_
  obtain ⟨Vi, Vl, Vo, Vb, Vc, Vj, Vf, Va, Vs, Vt⟩ := V
  simp only at eI eL eA eJ
  subst eI eL eA eJ
  have hm0 := HRT.out.m0
  have hm1 := HRT.out.m1
  obtain ⟨m, hmm⟩ : ∃ m : Nat, C.max = (m : Int) := ⟨C.max.toNat, by omega⟩
  have HMM := Lib.hid hmm
  obtain ⟨nI, hnI⟩ : ∃ n, C.inputs.length = n := ⟨_, rfl⟩
  obtain ⟨nL, hnL⟩ : ∃ n, C.latches.length = n := ⟨_, rfl⟩
  obtain ⟨nA, hnA⟩ : ∃ n, C.ands.length = n := ⟨_, rfl⟩
  obtain ⟨nJ, hnJ⟩ : ∃ n, C.justice.length = n := ⟨_, rfl⟩
  have HNI := Lib.hid hnI
  have HNL := Lib.hid hnL
  have HNA := Lib.hid hnA
  have HNJ := Lib.hid hnJ
  have hni : nI ≤ 16384 := by rw [← hnI]; exact HRT.out.ni
  have hnl : nL ≤ 16384 := by rw [← hnL]; exact HRT.out.nl
  have hna : nA ≤ 16384 := by rw [← hnA]; exact HRT.out.na
  have hnj : nJ ≤ 16384 := by rw [← hnJ]; exact HRT.out.nj
  rw [hmm] at hm1 ⊢
  rw [hnI, hnL, hnA, hnJ] at h ⊢
  have hm2 : m ≤ 16384 := by omega
  obtain ⟨W0, hW0⟩ : ∃ W0, W0 = ((w.alloc (.cells #[.int .i64 (m : Int), .slice AI nI cI, .slice AL nL cL, Vo, Vb, Vc, .slice AJ nJ cJ, Vf, .slice AA nA cA, Vs, Vt] 29)).alloc (.cells #[.int .i64 0, .slice none 0 0, .slice none 0 0, .slice none 0 0, .slice none 0 0, .slice none 0 0, .slice none 0 0, .slice none 0 0, .slice none 0 0, .slice none 0 0, .slice none 0 0] 29)) := ⟨_, rfl⟩
  have HBX : Hid (∀ wz, Below W0.heap.size W0 wz → Blk wz w.heap.size 29 #[.int .i64 (m : Int), .slice AI nI cI, .slice AL nL cL, Vo, Vb, Vc, .slice AJ nJ cJ, Vf, .slice AA nA cA, Vs, Vt]) := Lib.hid (fun wz hb => by
    have : Blk W0 w.heap.size 29 #[.int .i64 (m : Int), .slice AI nI cI, .slice AL nL cL, Vo, Vb, Vc, .slice AJ nJ cJ, Vf, .slice AA nA cA, Vs, Vt] := by rw [hW0]; exact (Blk.new w _ _).alloc _
    exact this.below hb this.lt)
  have HZB : Hid (∀ wz, Below W0.heap.size W0 wz → Blk wz (w.heap.size + 1) 29 #[.int .i64 0, .slice none 0 0, .slice none 0 0, .slice none 0 0, .slice none 0 0, .slice none 0 0, .slice none 0 0, .slice none 0 0, .slice none 0 0, .slice none 0 0, .slice none 0 0]) := Lib.hid (fun wz hb => by
    have : Blk W0 (w.heap.size + 1) 29 #[.int .i64 0, .slice none 0 0, .slice none 0 0, .slice none 0 0, .slice none 0 0, .slice none 0 0, .slice none 0 0, .slice none 0 0, .slice none 0 0, .slice none 0 0, .slice none 0 0] := by
      rw [hW0]
      have := Blk.new (w.alloc (.cells #[.int .i64 (m : Int), .slice AI nI cI, .slice AL nL cL, Vo, Vb, Vc, .slice AJ nJ cJ, Vf, .slice AA nA cA, Vs, Vt] 29)) 29 #[.int .i64 0, .slice none 0 0, .slice none 0 0, .slice none 0 0, .slice none 0 0, .slice none 0 0, .slice none 0 0, .slice none 0 0, .slice none 0 0, .slice none 0 0, .slice none 0 0]
      simpa using this
    exact this.below hb this.lt)
  have HB0 : Hid (Below w.heap.size w W0) := Lib.hid (by rw [hW0]; exact ((Below.refl w.heap.size w).alloc (Nat.le_refl _) _).alloc (by simp) _)
  have HS0 : Hid (W0.heap.size = w.heap.size + 1 + 1) := Lib.hid (by rw [hW0]; simp)
  have HIN : Hid (∀ wz, Below W0.heap.size W0 wz → C.In wz ⟨.slice AI nI cI, .slice AL nL cL, Vo, Vb, Vc, .slice AJ nJ cJ, Vf, .slice AA nA cA, Vs, Vt⟩) := Lib.hid (fun wz hb => (h.below HB0.out).below hb)
  have hord := rOrder_any W0 _ C (h.below HB0.out) ok htn
  rw [hz, hmm] at hord
  have HORD := Lib.hid hord
  have HW0 := Lib.hid hW0
  have HCP := Lib.hid (fun (wx : World) (hx : C.In wx ⟨.slice AI nI cI, .slice AL nL cL, Vo, Vb, Vc, .slice AJ nJ cJ, Vf, .slice AA nA cA, Vs, Vt⟩) => CopyCircuit_any wx _ C hx HRM.out)
  rw [hmm] at HCP
  have hmk := make_ints (m + 1) (by omega)
  push_cast at hmk
  have hw1 : IntKind.i64.wrap ((m : Int) + 1) = (m : Int) + 1 := by simp [IntKind.wrap, IntKind.bits, IntKind.signed]; omega
  have hbx0 := HBX.out W0 (Below.refl _ _)
  obtain ⟨c0, c1, c2, c3, c4, c5, c6, c7, c8, c9, c10⟩ := rbox_of hbx0
  rw [hW0] at c0 c1 c2 c3 c4 c5 c6 c7 c8 c9 c10
  clear h ok rm hz hord hmm hnI hnL hnA hnJ hW0 hm0 hbx0
  rw [HW0.out] at HORD
  go_enter Try.func19, Try.ntmps19
  go_upto_region 7 with (first
    | (go_at_call 13; refine HORD.out.mono ?_; rw [← HW0.out]; rintro e w1 ⟨hb1, vg, out, rfl, _, hok⟩; obtain ⟨ho1, hg1, hl1⟩ := hok rfl; have HB1 := Lib.hid hb1; have HO1 := Lib.hid ho1; have HG1 := Lib.hid hg1; have HL1 := Lib.hid hl1; clear c0 c1 c2 c3 c4 c5 c6 c7 c8 c9 c10; obtain ⟨c0, c1, c2, c3, c4, c5, c6, c7, c8, c9, c10⟩ := rbox_of (HBX.out w1 hb1); have hcA := rbox_of ((HBX.out w1 hb1).alloc (.cells (madeCells #[Value.int .i64 0] (m + 1)) 3)); obtain ⟨d0, d1, d2, d3, d4, d5, d6, d7, d8, d9, d10⟩ := hcA; clear hb1 ho1 hg1 hl1 hok)
    | (go_at_call 27; refine (HCP.out _ (HIN.out _ (HB1.out.alloc HB1.out.size _))).mono ?_; rintro e w3 ⟨U, us, rfl, hb3, hcp⟩; obtain ⟨Ui, Ul, Uo, Ub, Uc, Uj, Uf, Ua, Us, Ut⟩ := U; obtain ⟨A0, k0, hf0⟩ := own_slice_k hcp.i; rw [HNI.out] at hf0; simp only at hf0; subst hf0; obtain ⟨A1, k1, hf1⟩ := own_slice_k hcp.l; rw [HNL.out] at hf1; simp only at hf1; subst hf1; obtain ⟨A2, n2, k2, hf2⟩ := sl_formR hcp.in_.o; simp only at hf2; subst hf2; obtain ⟨A3, n3, k3, hf3⟩ := sl_formR hcp.in_.b; simp only at hf3; subst hf3; obtain ⟨A4, n4, k4, hf4⟩ := sl_formR hcp.in_.c; simp only at hf4; subst hf4; obtain ⟨A5, k5, hf5⟩ := own_slice_k hcp.j.own; rw [hcp.j.ul, HNJ.out] at hf5; simp only at hf5; subst hf5; obtain ⟨A6, n6, k6, hf6⟩ := sl_formR hcp.in_.f; simp only at hf6; subst hf6; obtain ⟨A7, k7, hf7⟩ := own_slice_k hcp.a; rw [HNA.out] at hf7; simp only at hf7; subst hf7; obtain ⟨A8, n8, k8, hf8⟩ := sl_formR hcp.in_.s; simp only at hf8; subst hf8; obtain ⟨A9, n9, k9, hf9⟩ := sl_formR hcp.in_.t; simp only at hf9; subst hf9;  have HCB := Lib.hid hcp; have HB3 := Lib.hid hb3; clear hb3 hcp c0 c1 c2 c3 c4 c5 c6 c7 c8 c9 c10 d0 d1 d2 d3 d4 d5 d6 d7 d8 d9 d10))
  have hsz2 : (w1.alloc (.cells (madeCells #[Value.int .i64 0] (m + 1)) 3)).heap.size = w1.heap.size + 1 := by simp
  have hbl : Below w1.heap.size w1 (w3.alloc (.cells #[.int .i64 (m : Int), .slice A0 nI k0, .slice A1 nL k1, .slice A2 n2 k2, .slice A3 n3 k3, .slice A4 n4 k4, .slice A5 nJ k5, .slice A6 n6 k6, .slice A7 nA k7, .slice A8 n8 k8, .slice A9 n9 k9] 29)) := by
    have h1 : Below w1.heap.size w1 (w1.alloc (.cells (madeCells #[Value.int .i64 0] (m + 1)) 3)) := (Below.refl _ _).alloc (Nat.le_refl _) _
    have h2 : Below w1.heap.size w1 w3 := bt h1 (Nat.le_refl _) HB3.out
    exact h2.alloc h2.size _
  have hb3 := HB3.out
  have hs3 := hb3.size
  rw [hsz2] at hs3
  have HRR : Hid (RR w1 (w3.alloc (.cells #[.int .i64 (m : Int), .slice A0 nI k0, .slice A1 nL k1, .slice A2 n2 k2, .slice A3 n3 k3, .slice A4 n4 k4, .slice A5 nJ k5, .slice A6 n6 k6, .slice A7 nA k7, .slice A8 n8 k8, .slice A9 n9 k9] 29)) (w1.heap.size + 1) w1.heap.size w3.heap.size #[.int .i64 (m : Int), .slice A0 nI k0, .slice A1 nL k1, .slice A2 n2 k2, .slice A3 n3 k3, .slice A4 n4 k4, .slice A5 nJ k5, .slice A6 n6 k6, .slice A7 nA k7, .slice A8 n8 k8, .slice A9 n9 k9] (List.replicate (m + 1) 0) ⟨.slice A0 nI k0, .slice A1 nL k1, .slice A2 n2 k2, .slice A3 n3 k3, .slice A4 n4 k4, .slice A5 nJ k5, .slice A6 n6 k6, .slice A7 nA k7, .slice A8 n8 k8, .slice A9 n9 k9⟩ C.inputs C.latches C.ands C us) := Lib.hid (by
    have hc := HCB.out
    rw [hsz2] at hc
    have hi := hc.i
    rw [flat_ints] at hi
    refine ⟨hbl, Nat.le_refl _, by omega, by omega, ?_, Blk.new _ _ _, hi.alloc _, hc.l.alloc _, hc.a.alloc _, hc.j.own.alloc _, hc.s.alloc _, hc.t.alloc _⟩
    have := new_ints w1 (m + 1)
    exact Blk.alloc (Blk.below this hb3 (Blk.lt this)) _)
  have HUL : Hid (us.length = nJ) := Lib.hid (by have := HCB.out.j.ul; rw [HNJ.out] at this; exact this)
  have HALL : Hid (∀ wz, Below w1.heap.size w1 wz → Blk wz w.heap.size 29 #[.int .i64 (m : Int), .slice AI nI cI, .slice AL nL cL, Vo, Vb, Vc, .slice AJ nJ cJ, Vf, .slice AA nA cA, Vs, Vt] ∧ C.In wz ⟨.slice AI nI cI, .slice AL nL cL, Vo, Vb, Vc, .slice AJ nJ cJ, Vf, .slice AA nA cA, Vs, Vt⟩ ∧ Blk wz (w.heap.size + 1) 29 #[.int .i64 0, .slice none 0 0, .slice none 0 0, .slice none 0 0, .slice none 0 0, .slice none 0 0, .slice none 0 0, .slice none 0 0, .slice none 0 0, .slice none 0 0, .slice none 0 0] ∧ wz.ownsRow W0.heap.size 3 1 vg out.length (out.map (Value.int .i64)) ∧ Below w.heap.size w wz) := Lib.hid (fun wz hb => by
    have h4 : Below W0.heap.size W0 wz := bt HB1.out (Nat.le_refl _) hb
    exact ⟨HBX.out _ h4, HIN.out _ h4, HZB.out _ h4, own_below HO1.out hb, HB0.out.trans (h4.mono HB0.out.size)⟩)
  have HSZ1 : Hid (w.heap.size + 1 + 1 ≤ w1.heap.size) := Lib.hid (by have := HB1.out.size; rw [HS0.out] at this; exact this)
  have HNW := Lib.hid (newL_of (out := out) HFI.out (by have := greedy_perm HG1.out (by rw [usesC_len]; exact HL1.out); rw [usesC_len] at this; exact this))
  obtain ⟨Ag, cg, hvg⟩ := own_slice HO1.out
  subst hvg
  have hlo : out.length = nA := by rw [HL1.out]; exact HNA.out
  rw [hlo] at HALL ⊢
  have HLO := Lib.hid hlo
  have HPOS : Hid (∀ (k : Nat) (l : Int), (linesL C out)[k]? = some l → 0 ≤ l / 2 ∧ l / 2 < (m : Int) + 1 ∧ 0 ≤ l) := Lib.hid (fun k l hk => by
    have h1 := HNW.out.two l (List.mem_of_getElem? hk)
    have h2 := HMM.out
    omega)
  clear hbl hb3 hs3 hsz2 HORD HCP HB3 HCB hmk hlo
  generalize hbo : w3.heap.size = bo at *
  generalize w3.alloc (.cells #[.int .i64 (m : Int), .slice A0 nI k0, .slice A1 nL k1, .slice A2 n2 k2, .slice A3 n3 k3, .slice A4 n4 k4, .slice A5 nJ k5, .slice A6 n6 k6, .slice A7 nA k7, .slice A8 n8 k8, .slice A9 n9 k9] 29) = X at *
  clear hbo
  go_wp2
  go_loopg [8, 10] nI (fun j nv iv wx => ∃ k : Nat, k ≤ nI ∧ iv = .int .i64 k ∧ nv = .int .i64 (2 * (k : Int) + 2) ∧ j = nI - k ∧ RR w1 wx (w1.heap.size + 1) w1.heap.size bo #[.int .i64 (m : Int), .slice A0 nI k0, .slice A1 nL k1, .slice A2 n2 k2, .slice A3 n3 k3, .slice A4 n4 k4, .slice A5 nJ k5, .slice A6 n6 k6, .slice A7 nA k7, .slice A8 n8 k8, .slice A9 n9 k9] ((numF (C.inputs.take k) (0, List.replicate (m + 1) 0)).2) ⟨.slice A0 nI k0, .slice A1 nL k1, .slice A2 n2 k2, .slice A3 n3 k3, .slice A4 n4 k4, .slice A5 nJ k5, .slice A6 n6 k6, .slice A7 nA k7, .slice A8 n8 k8, .slice A9 n9 k9⟩ (evs k ++ C.inputs.drop k) (C.latches) (C.ands) C us)
  case atStart => exact ⟨0, Nat.zero_le _, rfl, rfl, rfl, HRR.out⟩
  case round =>
    obtain ⟨k, hk, rfl, rfl, hgk, hst⟩ := hrel
    subst hgk
    have HST := Lib.hid hst
    clear hst
    have hA := HALL.out _ HST.out.below
    obtain ⟨c0, c1, c2, c3, c4, c5, c6, c7, c8, c9, c10⟩ := rbox_of hA.1
    obtain ⟨d0, d1, d2, d3, d4, d5, d6, d7, d8, d9, d10⟩ := rbox_of HST.out.box
    by_cases hlt : k < nI
    · have hx := List.getElem?_eq_getElem (l := C.inputs) (i := k) (by rw [HNI.out]; exact hlt)
      generalize C.inputs[k]'(by rw [HNI.out]; exact hlt) = x at hx
      obtain ⟨A', c', eA', _, _, hrun⟩ := hA.2.1.i
      injection eA' with g1 g2 g3
      subst g1
      clear g2 g3
      obtain ⟨b, off, rfl, hb, hcell⟩ := hrun k x hx
      have i0 := hcell 0 _ rfl
      simp only [Nat.mul_one, Nat.add_zero] at i0
      have hln : (linesL C out)[k]? = some x := by
        unfold linesL
        rw [List.append_assoc, List.getElem?_append_left (by rw [HNI.out]; exact hlt)]
        exact hx
      obtain ⟨p1, p2, p3⟩ := HPOS.out k x hln
      have hIl : (evs k ++ C.inputs.drop k).length = nI := by rw [List.length_append, evs_len, List.length_drop, HNI.out]; omega
      obtain ⟨gi, capi, hvi, hBi, _, _, hgil, hci, hfi, _⟩ := own_cells HST.out.i (by rw [hIl]; omega)
      injection hvi with e1 e2 e3
      subst e1 e3
      clear e2
      rw [hIl] at hci
      have ci := hci k hlt
      have fi := hfi k
      have hMl : (numF (C.inputs.take k) (0, List.replicate (m + 1) 0)).2.length = m + 1 := by rw [(numF_len _ _).1]; simp
      obtain ⟨y, hy⟩ : ∃ y, (numF (C.inputs.take k) (0, List.replicate (m + 1) 0)).2[(x / 2).toNat]? = some y := ⟨_, List.getElem?_eq_getElem (by rw [hMl]; omega)⟩
      have cm := Nums.cell HST.out.nums hy
      have fm := Blk.frozen HST.out.nums (x / 2).toNat
      have hq := tdiv_nn (b := 2) p3
      have hk0 : (0 : Int) ≤ (k : Int) := by omega
      have hk1 : (k : Int) < (nI : Int) := by omega
      have hw2 : IntKind.i64.wrap (2 * (k : Int) + 2 + 2) = 2 * (k : Int) + 2 + 2 := by simp [IntKind.wrap, IntKind.bits, IntKind.signed]; omega
      have hne : ¬ gi = w1.heap.size := by omega
      have hne2 : ¬ w1.heap.size = gi := by omega
      have hM2 : (numF (C.inputs.take (k + 1)) (0, List.replicate (m + 1) 0)).2 = (numF (C.inputs.take k) (0, List.replicate (m + 1) 0)).2.set (x / 2).toNat (2 * (k : Int) + 2) := by
        rw [List.take_add_one, hx]
        have := numF_app (C.inputs.take k) x (m + 1)
        rw [List.length_take, HNI.out, Nat.min_eq_left hk] at this
        simpa using this
      have hI2 : (evs k ++ C.inputs.drop k).set k (2 * (k : Int) + 2) = evs (k + 1) ++ C.inputs.drop (k + 1) := by
        rw [← evs_set (by rw [HNI.out]; exact hlt), show 2 * ((k : Int) + 1) = 2 * (k : Int) + 2 by omega]
      have HN2 := Lib.hid ((HST.out.setM (x / 2).toNat (2 * (k : Int) + 2)).setI (q := k) rfl (by rw [hIl]; exact hlt) (2 * (k : Int) + 2))
      rw [← hM2, hI2] at HN2
      have hbol := HST.out.bol
      have hIl2 : (evs k).length + (C.inputs.length - k) = nI := by rw [evs_len, HNI.out]; omega
      clear hx hcell hrun hln hci hfi hy hM2 hI2 hA hMl
      go_wp2
      go_roundg (nI - (k + 1))
      case measure => omega
      case rel => exact ⟨k + 1, by omega, by go_num, congrArg (Value.int .i64) (by first | omega | (push_cast; omega)), rfl, HN2.out⟩
    · have hke : nI = k := by omega
      subst hke
      have hst := HST.out
      rw [List.take_of_length_le (by rw [HNI.out]; exact Nat.le_refl _), List.drop_eq_nil_of_le (by rw [HNI.out]; exact Nat.le_refl _), List.append_nil] at hst
      have HS2 := Lib.hid hst
      clear hst HST hA
      go_wp2
      clear c0 c1 c2 c3 c4 c5 c6 c7 c8 c9 c10 d0 d1 d2 d3 d4 d5 d6 d7 d8 d9 d10
      go_loopg [8, 11] nL (fun j nv iv wx => ∃ k : Nat, k ≤ nL ∧ iv = .int .i64 k ∧ nv = .int .i64 (2 * ((nI : Int) + k) + 2) ∧ j = nL - k ∧ RR w1 wx (w1.heap.size + 1) w1.heap.size bo #[.int .i64 (m : Int), .slice A0 nI k0, .slice A1 nL k1, .slice A2 n2 k2, .slice A3 n3 k3, .slice A4 n4 k4, .slice A5 nJ k5, .slice A6 n6 k6, .slice A7 nA k7, .slice A8 n8 k8, .slice A9 n9 k9] ((numF (C.inputs ++ (C.latches.map (·.1)).take k) (0, List.replicate (m + 1) 0)).2) ⟨.slice A0 nI k0, .slice A1 nL k1, .slice A2 n2 k2, .slice A3 n3 k3, .slice A4 n4 k4, .slice A5 nJ k5, .slice A6 n6 k6, .slice A7 nA k7, .slice A8 n8 k8, .slice A9 n9 k9⟩ (evs nI) (C.latches) (C.ands) C us)
      case atStart => exact ⟨0, Nat.zero_le _, rfl, congrArg (Value.int .i64) (by first | omega | (push_cast; omega)), rfl, by simpa using HS2.out⟩
      case round =>
        obtain ⟨k, hk, rfl, rfl, hgk, hst⟩ := hrel
        subst hgk
        have HST := Lib.hid hst
        clear hst
        have hA := HALL.out _ HST.out.below
        obtain ⟨c0, c1, c2, c3, c4, c5, c6, c7, c8, c9, c10⟩ := rbox_of hA.1
        by_cases hlt : k < nL
        · have hx := List.getElem?_eq_getElem (l := C.latches) (i := k) (by rw [HNL.out]; exact hlt)
          generalize C.latches[k]'(by rw [HNL.out]; exact hlt) = x at hx
          obtain ⟨A', c', eA', _, _, hrun⟩ := hA.2.1.l
          injection eA' with g1 g2 g3
          subst g1
          clear g2 g3
          obtain ⟨b, off, rfl, hb, hcell⟩ := hrun k x hx
          obtain ⟨x0, x1, x2⟩ := x
          have i0 := hcell 0 _ rfl
          simp only [Nat.add_zero] at i0
          have hx2 : (C.latches.map (·.1))[k]? = some x0 := by rw [List.getElem?_map, hx]; rfl
          have hln : (linesL C out)[nI + k]? = some x0 := by
            unfold linesL
            rw [List.getElem?_append_left (by simp [HNI.out, HNL.out]; omega), List.getElem?_append_right (by rw [HNI.out]; omega), HNI.out, show nI + k - nI = k by omega]
            exact hx2
          obtain ⟨p1, p2, p3⟩ := HPOS.out _ x0 hln
          have hMl : (numF (C.inputs ++ (C.latches.map (·.1)).take k) (0, List.replicate (m + 1) 0)).2.length = m + 1 := by rw [(numF_len _ _).1]; simp
          obtain ⟨y, hy⟩ : ∃ y, (numF (C.inputs ++ (C.latches.map (·.1)).take k) (0, List.replicate (m + 1) 0)).2[(x0 / 2).toNat]? = some y := ⟨_, List.getElem?_eq_getElem (by rw [hMl]; omega)⟩
          have cm := Nums.cell HST.out.nums hy
          have fm := Blk.frozen HST.out.nums (x0 / 2).toNat
          have hq := tdiv_nn (b := 2) p3
          have hk0 : (0 : Int) ≤ (k : Int) := by omega
          have hk1 : (k : Int) < (nL : Int) := by omega
          have hw2 : IntKind.i64.wrap (2 * ((nI : Int) + k) + 2 + 2) = 2 * ((nI : Int) + k) + 2 + 2 := by simp [IntKind.wrap, IntKind.bits, IntKind.signed]; omega
          have hM2 : (numF (C.inputs ++ (C.latches.map (·.1)).take (k + 1)) (0, List.replicate (m + 1) 0)).2 = (numF (C.inputs ++ (C.latches.map (·.1)).take k) (0, List.replicate (m + 1) 0)).2.set (x0 / 2).toNat (2 * ((nI : Int) + k) + 2) := by
            rw [List.take_add_one, hx2]
            have := numF_app (C.inputs ++ (C.latches.map (·.1)).take k) x0 (m + 1)
            rw [List.length_append, HNI.out, List.length_take, List.length_map, HNL.out, Nat.min_eq_left hk] at this
            simpa [List.append_assoc] using this
          have HN2 := Lib.hid (HST.out.setM (x0 / 2).toNat (2 * ((nI : Int) + k) + 2))
          rw [← hM2] at HN2
          clear hx hx2 hcell hrun hln hy hM2 hA hMl
          go_wp2
          go_roundg (nL - (k + 1))
          case measure => omega
          case rel => exact ⟨k + 1, by omega, by go_num, congrArg (Value.int .i64) (by first | omega | (push_cast; omega)), rfl, HN2.out⟩
        · have hke : nL = k := by omega
          subst hke
          have hst := HST.out
          rw [List.take_of_length_le (by rw [List.length_map, HNL.out]; exact Nat.le_refl _)] at hst
          have HS3 := Lib.hid hst
          clear hst HST hA HS2
          go_wp2
          clear c0 c1 c2 c3 c4 c5 c6 c7 c8 c9 c10
          go_loopg [8, 12] nA (fun j nv iv wx => ∃ k : Nat, k ≤ nA ∧ iv = .int .i64 k ∧ nv = .int .i64 (2 * ((nI : Int) + nL + k) + 2) ∧ j = nA - k ∧ RR w1 wx (w1.heap.size + 1) w1.heap.size bo #[.int .i64 (m : Int), .slice A0 nI k0, .slice A1 nL k1, .slice A2 n2 k2, .slice A3 n3 k3, .slice A4 n4 k4, .slice A5 nJ k5, .slice A6 n6 k6, .slice A7 nA k7, .slice A8 n8 k8, .slice A9 n9 k9] ((numF (C.inputs ++ C.latches.map (·.1) ++ (out.take k).map (fun g : Int => (C.ands.getD g.toNat (0, 0, 0)).1)) (0, List.replicate (m + 1) 0)).2) ⟨.slice A0 nI k0, .slice A1 nL k1, .slice A2 n2 k2, .slice A3 n3 k3, .slice A4 n4 k4, .slice A5 nJ k5, .slice A6 n6 k6, .slice A7 nA k7, .slice A8 n8 k8, .slice A9 n9 k9⟩ (evs nI) (C.latches) (C.ands) C us)
          case atStart => exact ⟨0, Nat.zero_le _, rfl, congrArg (Value.int .i64) (by first | omega | (push_cast; omega)), rfl, by simpa using HS3.out⟩
          case round =>
            obtain ⟨k, hk, rfl, rfl, hgk, hst⟩ := hrel
            subst hgk
            have HST := Lib.hid hst
            clear hst
            have hA := HALL.out _ HST.out.below
            obtain ⟨c0, c1, c2, c3, c4, c5, c6, c7, c8, c9, c10⟩ := rbox_of hA.1
            by_cases hlt : k < nA
            · have hg := List.getElem?_eq_getElem (l := out) (i := k) (by rw [HLO.out]; exact hlt)
              generalize out[k]'(by rw [HLO.out]; exact hlt) = g at hg
              have hgr := HG1.out.inR g (List.mem_of_getElem? hg)
              unfold InR at hgr
              rw [usesC_len, HNA.out] at hgr
              obtain ⟨gn, rfl⟩ : ∃ gn : Nat, g = (gn : Int) := ⟨g.toNat, by omega⟩
              obtain ⟨x, hx⟩ : ∃ x, C.ands[gn]? = some x := ⟨_, List.getElem?_eq_getElem (by rw [HNA.out]; omega)⟩
              have hre : RowE 1 encI wr (.slice Ag out.length cg) out := own_rowe lenI (by rw [flat_ints, HLO.out]; have := hA.2.2.2.1; rw [← HLO.out] at this ⊢; exact this)
              obtain ⟨A2, cq2, eA2, _, _, hrun2⟩ := hre
              injection eA2 with g1 g2 g3
              subst g1
              clear g2 g3
              obtain ⟨b2, off2, rfl, hb2, hcell2⟩ := hrun2 k _ hg
              have o0 := hcell2 0 _ rfl
              simp only [Nat.mul_one, Nat.add_zero] at o0
              obtain ⟨A', c', eA', _, _, hrun⟩ := hA.2.1.a
              injection eA' with g1 g2 g3
              subst g1
              clear g2 g3
              obtain ⟨b, off, rfl, hb, hcell⟩ := hrun gn x hx
              obtain ⟨x0, x1, x2⟩ := x
              have i0 := hcell 0 _ rfl
              have i1 := hcell 1 _ rfl
              have i2 := hcell 2 _ rfl
              simp only [Nat.add_zero, ← Nat.add_assoc] at i0 i1 i2
              have hgD : C.ands.getD ((gn : Int)).toNat (0, 0, 0) = (x0, x1, x2) := by simp [List.getD, hx]
              have hk0 : (0 : Int) ≤ (k : Int) := by omega
              have hk1 : (k : Int) < (nA : Int) := by omega
              have hg0 : (0 : Int) ≤ (gn : Int) := by omega
              have hg1 : (gn : Int) < (nA : Int) := by omega
              have hln := line_gate HNW.out hg
              rw [hgD] at hln
              obtain ⟨p1, p2, p3⟩ := HPOS.out _ x0 hln
              have hMl : (numF (C.inputs ++ C.latches.map (·.1) ++ (out.take k).map (fun g : Int => (C.ands.getD g.toNat (0, 0, 0)).1)) (0, List.replicate (m + 1) 0)).2.length = m + 1 := by rw [(numF_len _ _).1]; simp
              obtain ⟨y, hy⟩ : ∃ y, (numF (C.inputs ++ C.latches.map (·.1) ++ (out.take k).map (fun g : Int => (C.ands.getD g.toNat (0, 0, 0)).1)) (0, List.replicate (m + 1) 0)).2[(x0 / 2).toNat]? = some y := ⟨_, List.getElem?_eq_getElem (by rw [hMl]; omega)⟩
              have hq := tdiv_nn (b := 2) p3
              have z5 : IntKind.i64.wrap (x0 / 2) = x0 / 2 := i64_small (by omega) (by omega)
              have hw2 : IntKind.i64.wrap (2 * ((nI : Int) + nL + k) + 2 + 2) = 2 * ((nI : Int) + nL + k) + 2 + 2 := by simp [IntKind.wrap, IntKind.bits, IntKind.signed]; omega
              have hM2 : (numF (C.inputs ++ C.latches.map (·.1) ++ (out.take (k + 1)).map (fun g : Int => (C.ands.getD g.toNat (0, 0, 0)).1)) (0, List.replicate (m + 1) 0)).2 = (numF (C.inputs ++ C.latches.map (·.1) ++ (out.take k).map (fun g : Int => (C.ands.getD g.toNat (0, 0, 0)).1)) (0, List.replicate (m + 1) 0)).2.set (x0 / 2).toNat (2 * ((nI : Int) + nL + k) + 2) := by
                rw [List.take_add_one, hg, List.map_append]
                have := numF_app (C.inputs ++ C.latches.map (·.1) ++ (out.take k).map (fun g : Int => (C.ands.getD g.toNat (0, 0, 0)).1)) x0 (m + 1)
                rw [List.length_append, List.length_append, HNI.out, List.length_map, HNL.out, List.length_map, List.length_take, HLO.out, Nat.min_eq_left hk] at this
                simp only [List.append_assoc] at this ⊢
                have e3 : (Option.some (gn : Int)).toList.map (fun g : Int => (C.ands.getD g.toNat (0, 0, 0)).1) = [x0] := by simp only [Option.toList, List.map_cons, List.map_nil, hgD]
                rw [e3, this]
                push_cast
                rfl
              have HN2 := Lib.hid (HST.out.drew.setM (x0 / 2).toNat (2 * ((nI : Int) + nL + k) + 2))
              rw [← hM2] at HN2
              have HCM := Lib.hid (And.intro (Nums.cell HST.out.drew.nums hy) (Blk.frozen HST.out.drew.nums (x0 / 2).toNat))
              have HHL := Lib.hid (Blk.lt HST.out.drew.nums)
              clear hx hcell hrun hln hy hM2 hA hMl hcell2 hrun2 hgr hgD
              go_wp2
              go_still_tail 13, (by kernel_rfl)
              change wpList _ _ _ _ _ wr.drew
              obtain ⟨cm, fm⟩ := HCM.out
              generalize wr.drew = wd at *
              go_wp2
              go_roundg (nA - (k + 1))
              case measure => omega
              case rel => exact ⟨k + 1, by omega, by go_num, congrArg (Value.int .i64) (by first | omega | (push_cast; omega)), rfl, HN2.out⟩
            · have hke : nA = k := by omega
              subst hke
              have hst := HST.out
              rw [List.take_of_length_le (by rw [HLO.out]; exact Nat.le_refl _)] at hst
              have hMe : (numF (C.inputs ++ C.latches.map (·.1) ++ out.map (fun g : Int => (C.ands.getD g.toNat (0, 0, 0)).1)) (0, List.replicate (m + 1) 0)).2 = newM C out := by
                unfold newM
                rw [HMM.out, show ((m : Int)).toNat = m by omega]
              have hIe : evs nI = C.inputs.map (mvF (newM C out)) := by rw [← HNI.out]; exact evs_inputs HNW.out
              rw [hMe, hIe] at hst
              have HS4 := Lib.hid hst
              clear hst HST hA HS3 hMe hIe
              have HEV : Hid (EvenM (newM C out)) := Lib.hid ⟨by rw [newM_len, HMM.out]; omega, fun x hx => by
                have := newM_even C out x hx
                rw [HNI.out, HNL.out, HLO.out] at this
                omega⟩
              have HML : Hid ((newM C out).length = m + 1) := Lib.hid (by rw [newM_len, HMM.out]; omega)
              obtain ⟨M, hMM⟩ : ∃ M, newM C out = M := ⟨_, rfl⟩
              rw [hMM] at HS4 HEV HML
              have HM := Lib.hid hMM
              clear hMM
              go_wp2
              clear c0 c1 c2 c3 c4 c5 c6 c7 c8 c9 c10
              have HLIT := Lib.hid (fun (wx : World) (l : Int) (hx : Nums wx w1.heap.size M) (h0 : 0 ≤ l) (h1 : l / 2 < (m : Int) + 1) => by
                have := rLit_any wx w1.heap.size M l hx h0 (by rw [HML.out]; push_cast; omega) HEV.out
                rw [HML.out] at this
                exact this)
              have HZR : Hid (mvF M 0 = 0 ∧ mvF M 1 = 1) := Lib.hid (by
                have h0 := HNW.out.none 0 (fun hm => by have := (HNW.out.two _ hm).1; simp at this)
                rw [HM.out] at h0
                unfold mvF
                constructor
                · simp only [Int.zero_ediv, Int.toNat_zero, h0]; rfl
                · rw [show ((1 : Int) / 2).toNat = 0 by decide, h0]; rfl)
              go_loopg [13] nL (fun j iv wx => ∃ k : Nat, k ≤ nL ∧ iv = .int .i64 k ∧ j = nL - k ∧ RR w1 wx (w1.heap.size + 1) w1.heap.size bo #[.int .i64 (m : Int), .slice A0 nI k0, .slice A1 nL k1, .slice A2 n2 k2, .slice A3 n3 k3, .slice A4 n4 k4, .slice A5 nJ k5, .slice A6 n6 k6, .slice A7 nA k7, .slice A8 n8 k8, .slice A9 n9 k9] M ⟨.slice A0 nI k0, .slice A1 nL k1, .slice A2 n2 k2, .slice A3 n3 k3, .slice A4 n4 k4, .slice A5 nJ k5, .slice A6 n6 k6, .slice A7 nA k7, .slice A8 n8 k8, .slice A9 n9 k9⟩ (C.inputs.map (mvF M)) ((C.latches.take k).map (mvL M) ++ C.latches.drop k) (C.ands) C us)
              case atStart => exact ⟨0, Nat.zero_le _, rfl, rfl, by simpa using HS4.out⟩
              case round =>
                obtain ⟨k, hk, rfl, hgk, hst⟩ := hrel
                subst hgk
                have HST := Lib.hid hst
                clear hst
                have hA := HALL.out _ HST.out.below
                obtain ⟨c0, c1, c2, c3, c4, c5, c6, c7, c8, c9, c10⟩ := rbox_of hA.1
                by_cases hlt : k < nL
                · have hx := List.getElem?_eq_getElem (l := C.latches) (i := k) (by rw [HNL.out]; exact hlt)
                  generalize C.latches[k]'(by rw [HNL.out]; exact hlt) = x at hx
                  obtain ⟨A', c', eA', _, _, hrun⟩ := hA.2.1.l
                  injection eA' with g1 g2 g3
                  subst g1
                  clear g2 g3
                  obtain ⟨b, off, rfl, hb, hcell⟩ := hrun k x hx
                  have hri := HRT.out.l x (List.mem_of_getElem? hx)
                  obtain ⟨x0, x1, x2⟩ := x
                  have i0 := hcell 0 _ rfl
                  have i1 := hcell 1 _ rfl
                  have i2 := hcell 2 _ rfl
                  simp only [Nat.add_zero, ← Nat.add_assoc] at i0 i1 i2
                  obtain ⟨⟨r0, r1⟩, ⟨r2, r3⟩, r4⟩ := hri
                  rw [HMM.out] at r1 r3
                  simp only at r0 r1 r2 r3 r4
                  have p0 : 0 ≤ x0 ∧ x0 / 2 < (m : Int) + 1 := by omega
                  have p1 : 0 ≤ x1 ∧ x1 / 2 < (m : Int) + 1 := by omega
                  have hLl : ((C.latches.take k).map (mvL M) ++ C.latches.drop k).length = nL := by rw [List.length_append, List.length_map, List.length_take, List.length_drop, HNL.out]; omega
                  obtain ⟨gl, capl, hvl, hBl, hgll, _, hcl, hfl, _⟩ := own_cells3 HST.out.l (by rw [hLl]; omega)
                  injection hvl with e1 e2 e3
                  subst e1 e3
                  clear e2
                  have hLk : ((C.latches.take k).map (mvL M) ++ C.latches.drop k)[k]? = some (x0, x1, x2) := by
                    rw [List.getElem?_append_right (by simp; omega), List.getElem?_drop]
                    rw [List.length_map, List.length_take, HNL.out, Nat.min_eq_left hk, show k + (k - k) = k by omega]
                    exact hx
                  have hS := mvL_step M hx
                  have HLS := Lib.hid hS
                  have HX6 : Hid (Blk (wr.alloc (.cells #[.int .i64 x0, .int .i64 x1, .int .i64 x2] 52)) wr.heap.size 52 #[.int .i64 x0, .int .i64 x1, .int .i64 x2]) := Lib.hid (Blk.new _ _ _)
                  have HST6 := Lib.hid (HST.out.alloc (.cells #[.int .i64 x0, .int .i64 x1, .int .i64 x2] 52))
                  have hk0 : (0 : Int) ≤ (k : Int) := by omega
                  have hk1 : (k : Int) < (nL : Int) := by omega
                  go_upto_region 27 with (fail)
                  obtain ⟨c0', c1', c2'⟩ := And.intro (HX6.out.cell 0) (And.intro (HX6.out.cell 1) (HX6.out.cell 2))
                  simp only [List.getElem?_toArray, List.getElem?_cons_zero, List.getElem?_cons_succ] at c0' c1' c2'
                  obtain ⟨d0, d1, d2, d3, d4, d5, d6, d7, d8, d9, d10⟩ := rbox_of HST6.out.box
                  obtain ⟨gl', capl', hvl', _, hgl6, _, hcl6, hfl6, _⟩ := own_cells3 HST6.out.l (by rw [hLl]; omega)
                  injection hvl' with e1 e2 e3
                  injection e1 with e1
                  injection e1 with e1
                  subst e1
                  clear e2 e3
                  obtain ⟨t0, t1, t2⟩ := hcl6 k _ hLk
                  simp only at t0 t1 t2
                  have f0 := hfl6 (k * 3)
                  have f1 := hfl6 (k * 3 + 1)
                  have f2 := hfl6 (k * 3 + 2)
                  have hgx : gl < wr.heap.size := hgll
                  have s2 := d2
                  clear hx hcell hrun hA hcl hfl hcl6 hfl6 hLk hS c0 c1 c2 c3 c4 c5 c6 c7 c8 c9 c10 d0 d1 d2 d3 d4 d5 d6 d7 d8 d9 d10 i0 i1 i2 HST
                  generalize hgxe : wr.heap.size = gx at *
                  generalize wr.alloc (.cells #[.int .i64 x0, .int .i64 x1, .int .i64 x2] 52) = w6 at *
                  clear hgxe
                  have y0 := c0'
                  have y1 := c1'
                  by_cases hbig : 1 < x2
                  · have hx20 : x2 = x0 := by omega
                    subst hx20
                    have hN2 := HST6.out.setL (q := k) rfl (by rw [hLl]; exact hlt) (mvL M (x2, x1, x2))
                    rw [HLS.out] at hN2
                    have HN2 := Lib.hid hN2.drew
                    have HKE : Hid (((((w6.setCell ⟨gl, k * 3, none⟩ (.int .i64 (mvF M x2))).setCell ⟨gl, k * 3 + 1, none⟩ (.int .i64 (mvF M x1))).setCell ⟨gl, k * 3 + 2, none⟩ (.int .i64 (mvF M x2)))).drew.cell? ⟨bo, 2, none⟩ = some (.slice (some ⟨gl, 0, none⟩) nL k1) ∧ ((((w6.setCell ⟨gl, k * 3, none⟩ (.int .i64 (mvF M x2))).setCell ⟨gl, k * 3 + 1, none⟩ (.int .i64 (mvF M x1))).setCell ⟨gl, k * 3 + 2, none⟩ (.int .i64 (mvF M x2)))).drew.cell? ⟨gx, 0, none⟩ = some (.int .i64 x2) ∧ ((((w6.setCell ⟨gl, k * 3, none⟩ (.int .i64 (mvF M x2))).setCell ⟨gl, k * 3 + 1, none⟩ (.int .i64 (mvF M x1))).setCell ⟨gl, k * 3 + 2, none⟩ (.int .i64 (mvF M x2)))).drew.cell? ⟨gx, 1, none⟩ = some (.int .i64 x1)) := Lib.hid (by
                      have e2 := Blk.far (Blk.far (Blk.far HX6.out (p := ⟨gl, k * 3, none⟩) (by simp; omega) (.int .i64 (mvF M x2))) (p := ⟨gl, k * 3 + 1, none⟩) (by simp; omega) (.int .i64 (mvF M x1))) (p := ⟨gl, k * 3 + 2, none⟩) (by simp; omega) (.int .i64 (mvF M x2))
                      exact ⟨hN2.drew.box.cell 2, e2.cell 0, e2.cell 1⟩)
                    clear hN2
                    skip
                    go_upto_region 30 with (go_at_call 49; refine (HLIT.out _ x2 HST6.out.nums p0.1 p0.2).mono ?_; rintro e w5 ⟨rfl, rfl⟩)
                    go_region_held3 (fun w' => w'.cell? ⟨bo, 2, none⟩ = some (.slice (some ⟨gl, 0, none⟩) nL k1) ∧ w'.cell? ⟨gx, 0, none⟩ = some (.int .i64 x2) ∧ w'.cell? ⟨gx, 1, none⟩ = some (.int .i64 x1)) (first | exact ⟨s2, y0, y1⟩ | exact HKE.out | go_keep)
                      (first
                        | (go_at_call_of 49 x2; refine (HLIT.out _ x2 (show Nums _ w1.heap.size M from HST6.out.drew.nums) p0.1 p0.2).mono ?_; rintro e w5 ⟨rfl, rfl⟩)
                        | (go_at_call_of 49 x1; refine (HLIT.out _ x1 (show Nums _ w1.heap.size M from HST6.out.drew.nums) p1.1 p1.2).mono ?_; rintro e w5 ⟨rfl, rfl⟩))
                    go_wp2
                    go_roundg (nL - (k + 1))
                    case measure => omega
                    case rel => first
                      | exact ⟨k + 1, by omega, by go_num, rfl, HN2.out⟩
                      | ((repeat apply Exists.intro); exact ⟨⟨k + 1, by omega, by go_num, rfl, HN2.out⟩, rfl⟩)
                  · have hx2v : mvF M x2 = x2 := by
                      have : x2 = 0 ∨ x2 = 1 := by omega
                      rcases this with rfl | rfl
                      · exact HZR.out.1
                      · exact HZR.out.2
                    have HX2V := Lib.hid hx2v
                    have hN2 := HST6.out.setL (q := k) rfl (by rw [hLl]; exact hlt) (mvL M (x0, x1, x2))
                    rw [HLS.out] at hN2
                    have HN2 := Lib.hid hN2.drew
                    have HKE : Hid (((((w6.setCell ⟨gl, k * 3, none⟩ (.int .i64 (mvF M x0))).setCell ⟨gl, k * 3 + 1, none⟩ (.int .i64 (mvF M x1))).setCell ⟨gl, k * 3 + 2, none⟩ (.int .i64 (mvF M x2)))).drew.cell? ⟨bo, 2, none⟩ = some (.slice (some ⟨gl, 0, none⟩) nL k1) ∧ ((((w6.setCell ⟨gl, k * 3, none⟩ (.int .i64 (mvF M x0))).setCell ⟨gl, k * 3 + 1, none⟩ (.int .i64 (mvF M x1))).setCell ⟨gl, k * 3 + 2, none⟩ (.int .i64 (mvF M x2)))).drew.cell? ⟨gx, 0, none⟩ = some (.int .i64 x0) ∧ ((((w6.setCell ⟨gl, k * 3, none⟩ (.int .i64 (mvF M x0))).setCell ⟨gl, k * 3 + 1, none⟩ (.int .i64 (mvF M x1))).setCell ⟨gl, k * 3 + 2, none⟩ (.int .i64 (mvF M x2)))).drew.cell? ⟨gx, 1, none⟩ = some (.int .i64 x1)) := Lib.hid (by
                      have e2 := Blk.far (Blk.far (Blk.far HX6.out (p := ⟨gl, k * 3, none⟩) (by simp; omega) (.int .i64 (mvF M x0))) (p := ⟨gl, k * 3 + 1, none⟩) (by simp; omega) (.int .i64 (mvF M x1))) (p := ⟨gl, k * 3 + 2, none⟩) (by simp; omega) (.int .i64 (mvF M x2))
                      exact ⟨hN2.drew.box.cell 2, e2.cell 0, e2.cell 1⟩)
                    clear hN2 hx2v
                    rw [HX2V.out] at HKE
                    simp only [mvL, HX2V.out] at HN2
                    go_upto_region 30 with (fail)
                    go_region_held3 (fun w' => w'.cell? ⟨bo, 2, none⟩ = some (.slice (some ⟨gl, 0, none⟩) nL k1) ∧ w'.cell? ⟨gx, 0, none⟩ = some (.int .i64 x0) ∧ w'.cell? ⟨gx, 1, none⟩ = some (.int .i64 x1)) (first | exact ⟨s2, y0, y1⟩ | exact HKE.out | go_keep)
                      (first
                        | (go_at_call_of 49 x0; refine (HLIT.out _ x0 (show Nums _ w1.heap.size M from HST6.out.drew.nums) p0.1 p0.2).mono ?_; rintro e w5 ⟨rfl, rfl⟩)
                        | (go_at_call_of 49 x1; refine (HLIT.out _ x1 (show Nums _ w1.heap.size M from HST6.out.drew.nums) p1.1 p1.2).mono ?_; rintro e w5 ⟨rfl, rfl⟩))
                    go_wp2
                    go_roundg (nL - (k + 1))
                    case measure => omega
                    case rel => first
                      | exact ⟨k + 1, by omega, by go_num, rfl, HN2.out⟩
                      | ((repeat apply Exists.intro); exact ⟨⟨k + 1, by omega, by go_num, rfl, HN2.out⟩, rfl⟩)
                · have hke : nL = k := by omega
                  subst hke
                  have hst := HST.out
                  rw [List.take_of_length_le (by rw [HNL.out]; exact Nat.le_refl _), List.drop_eq_nil_of_le (by rw [HNL.out]; exact Nat.le_refl _), List.append_nil] at hst
                  have HS5 := Lib.hid hst
                  clear hst HST hA HS4
                  go_wp2
                  clear c0 c1 c2 c3 c4 c5 c6 c7 c8 c9 c10
                  go_loopg [16] nA (fun j iv wx => ∃ k : Nat, k ≤ nA ∧ iv = .int .i64 k ∧ j = nA - k ∧ RR w1 wx (w1.heap.size + 1) w1.heap.size bo #[.int .i64 (m : Int), .slice A0 nI k0, .slice A1 nL k1, .slice A2 n2 k2, .slice A3 n3 k3, .slice A4 n4 k4, .slice A5 nJ k5, .slice A6 n6 k6, .slice A7 nA k7, .slice A8 n8 k8, .slice A9 n9 k9] M ⟨.slice A0 nI k0, .slice A1 nL k1, .slice A2 n2 k2, .slice A3 n3 k3, .slice A4 n4 k4, .slice A5 nJ k5, .slice A6 n6 k6, .slice A7 nA k7, .slice A8 n8 k8, .slice A9 n9 k9⟩ (C.inputs.map (mvF M)) (C.latches.map (mvL M)) ((out.take k).map (fun g : Int => renAnd M (C.ands.getD g.toNat (0, 0, 0))) ++ C.ands.drop k) C us)
                  case atStart => exact ⟨0, Nat.zero_le _, rfl, rfl, by simpa using HS5.out⟩
                  case round =>
                    obtain ⟨k, hk, rfl, hgk, hst⟩ := hrel
                    subst hgk
                    have HST := Lib.hid hst
                    clear hst
                    have hA := HALL.out _ HST.out.below
                    obtain ⟨c0, c1, c2, c3, c4, c5, c6, c7, c8, c9, c10⟩ := rbox_of hA.1
                    by_cases hlt : k < nA
                    · have hg := List.getElem?_eq_getElem (l := out) (i := k) (by rw [HLO.out]; exact hlt)
                      generalize out[k]'(by rw [HLO.out]; exact hlt) = g at hg
                      have hgr := HG1.out.inR g (List.mem_of_getElem? hg)
                      unfold InR at hgr
                      rw [usesC_len, HNA.out] at hgr
                      obtain ⟨gn, rfl⟩ : ∃ gn : Nat, g = (gn : Int) := ⟨g.toNat, by omega⟩
                      obtain ⟨x, hx⟩ : ∃ x, C.ands[gn]? = some x := ⟨_, List.getElem?_eq_getElem (by rw [HNA.out]; omega)⟩
                      have hre : RowE 1 encI wr (.slice Ag out.length cg) out := own_rowe lenI (by rw [flat_ints, HLO.out]; have := hA.2.2.2.1; rw [← HLO.out] at this ⊢; exact this)
                      obtain ⟨A2, cq2, eA2, _, _, hrun2⟩ := hre
                      injection eA2 with g1 g2 g3
                      subst g1
                      clear g2 g3
                      obtain ⟨b2, off2, rfl, hb2, hcell2⟩ := hrun2 k _ hg
                      have o0 := hcell2 0 _ rfl
                      simp only [Nat.mul_one, Nat.add_zero] at o0
                      obtain ⟨A', c', eA', _, _, hrun⟩ := hA.2.1.a
                      injection eA' with g1 g2 g3
                      subst g1
                      clear g2 g3
                      obtain ⟨b, off, rfl, hb, hcell⟩ := hrun gn x hx
                      obtain ⟨x0, x1, x2⟩ := x
                      have i0 := hcell 0 _ rfl
                      have i1 := hcell 1 _ rfl
                      have i2 := hcell 2 _ rfl
                      simp only [Nat.add_zero, ← Nat.add_assoc] at i0 i1 i2
                      have hgD : C.ands.getD ((gn : Int)).toNat (0, 0, 0) = (x0, x1, x2) := by simp [List.getD, hx]
                      have hk0 : (0 : Int) ≤ (k : Int) := by omega
                      have hk1 : (k : Int) < (nA : Int) := by omega
                      have hg0 : (0 : Int) ≤ (gn : Int) := by omega
                      have hg1 : (gn : Int) < (nA : Int) := by omega
                      have hri := HRT.out.a _ (List.mem_of_getElem? hx)
                      obtain ⟨⟨r0, r1⟩, ⟨r2, r3⟩, ⟨r4, r5⟩⟩ := hri
                      rw [HMM.out] at r1 r3 r5
                      simp only at r0 r1 r2 r3 r4 r5
                      have p0 : 0 ≤ x0 ∧ x0 / 2 < (m : Int) + 1 := by omega
                      have p1 : 0 ≤ x1 ∧ x1 / 2 < (m : Int) + 1 := by omega
                      have p2 : 0 ≤ x2 ∧ x2 / 2 < (m : Int) + 1 := by omega
                      have hLl : ((out.take k).map (fun g : Int => renAnd M (C.ands.getD g.toNat (0, 0, 0))) ++ C.ands.drop k).length = nA := by rw [List.length_append, List.length_map, List.length_take, List.length_drop, HNA.out, HLO.out]; omega
                      obtain ⟨ga, capa, hva, hBa, hgal, _, _, _, _⟩ := own_cells3 HST.out.a (by rw [hLl]; omega)
                      injection hva with e1 e2 e3
                      subst e1 e3
                      clear e2
                      obtain ⟨z', hz'⟩ : ∃ z', ((out.take k).map (fun g : Int => renAnd M (C.ands.getD g.toNat (0, 0, 0))) ++ C.ands.drop k)[k]? = some z' := ⟨_, List.getElem?_eq_getElem (by rw [hLl]; exact hlt)⟩
                      have hS := set_seq2 (f := (fun g : Int => renAnd M (C.ands.getD g.toNat (0, 0, 0)))) hg (L := C.ands) (by rw [HNA.out]; exact hlt)
                      simp only [hgD] at hS
                      have HLS := Lib.hid hS
                      have HX6 : Hid (Blk (wr.alloc (.cells #[.int .i64 x0, .int .i64 x1, .int .i64 x2] 49)).drew wr.heap.size 49 #[.int .i64 x0, .int .i64 x1, .int .i64 x2]) := Lib.hid (Blk.new _ _ _).drew
                      have HST6 := Lib.hid (HST.out.alloc (.cells #[.int .i64 x0, .int .i64 x1, .int .i64 x2] 49)).drew
                      have HBA := Lib.hid hBa
                      have HHA := Lib.hid hgal
                      have HZZ := Lib.hid hz'
                      have HLL := Lib.hid hLl
                      obtain ⟨AK, hAK⟩ : ∃ L, (out.take k).map (fun g : Int => renAnd M (C.ands.getD g.toNat (0, 0, 0))) ++ C.ands.drop k = L := ⟨_, rfl⟩
                      rw [hAK] at HST6 HZZ HLL HLS
                      clear hAK
                      have f1 := World.new_ne wr _ c8
                      have f2 := World.new_ne wr _ o0
                      have f3 := World.new_ne wr _ i0
                      have f4 := World.new_ne wr _ i1
                      have f5 := World.new_ne wr _ i2
                      have hgn2 : ((gn : Int)).toNat = gn := by omega
                      clear hx hcell hrun hA hS hz' hLl hcell2 hrun2 hgr hgD hg hgal
                      go_wp2
                      go_region_held3 (fun w' => w'.cell? ⟨w.heap.size, 8, none⟩ = some (.slice (some ⟨b, off, none⟩) nA cA) ∧ w'.cell? ⟨b2, off2 + k, none⟩ = some (.int .i64 (gn : Int)) ∧ w'.cell? ⟨b, off + gn * 3, none⟩ = some (.int .i64 x0) ∧ w'.cell? ⟨b, off + gn * 3 + 1, none⟩ = some (.int .i64 x1) ∧ w'.cell? ⟨b, off + gn * 3 + 2, none⟩ = some (.int .i64 x2)) (first | exact ⟨c8, o0, i0, i1, i2⟩ | go_keep) (fail)
                      clear c0 c1 c2 c3 c4 c5 c6 c7 c8 c9 c10 o0 i0 i1 i2 f1 f2 f3 f4 f5
                      generalize hgxe : wr.heap.size = gx at *
                      generalize (wr.alloc (.cells #[.int .i64 x0, .int .i64 x1, .int .i64 x2] 49)).drew = w6 at *
                      clear hgxe
                      go_wp2
                      refine wp_region_quiet (C := fun wz => RR w1 wz (w1.heap.size + 1) w1.heap.size bo #[.int .i64 (m : Int), .slice A0 nI k0, .slice A1 nL k1, .slice A2 n2 k2, .slice A3 n3 k3, .slice A4 n4 k4, .slice A5 nJ k5, .slice A6 n6 k6, .slice (some ⟨ga, 0, none⟩) nA k7, .slice A8 n8 k8, .slice A9 n9 k9] M ⟨.slice A0 nI k0, .slice A1 nL k1, .slice A2 n2 k2, .slice A3 n3 k3, .slice A4 n4 k4, .slice A5 nJ k5, .slice A6 n6 k6, .slice (some ⟨ga, 0, none⟩) nA k7, .slice A8 n8 k8, .slice A9 n9 k9⟩ (C.inputs.map (mvF M)) (C.latches.map (mvL M)) (AK) C us ∧ Blk wz gx 49 #[.int .i64 x0, .int .i64 x1, .int .i64 x2]) (by kernel_rfl) (by kernel_rfl) ⟨HST6.out.drew, HX6.out.drew⟩ ?_
                      simp only
                      repeat
                        first
                          | go_big_quiet_skip
                          | (refine wpQuiet_step (fun K hK => ?_)
                             rw [if_pos (by rfl)]
                             unfold Oper.quiet
                             apply Exists.intro
                             refine And.intro (fun wx hWx => ?_) (hK _ ?_)
                             · have y0 := hWx.2.cell 0
                               have y1 := hWx.2.cell 1
                               have y2 := hWx.2.cell 2
                               simp only [List.getElem?_toArray, List.getElem?_cons_zero, List.getElem?_cons_succ] at y0 y1 y2
                               first
                                 | (go_simp; exact rfl)
                                 | (go_simp; go_at_call 49; refine (HLIT.out wx _ hWx.1.nums (by first | exact p1.1 | exact p2.1) (by first | exact p1.2 | exact p2.2)).mono ?_; rintro e w' ⟨rfl, rfl⟩; exact ⟨rfl, hWx⟩)
                             clear hK K
                             try simp only [Act.put, List.setIfInBounds_toArray, List.set_cons_zero, List.set_cons_succ])
                      refine wpQuiet_nil ?_
                      intro w5 hw5
                      have HW5 := Lib.hid hw5
                      clear hw5
                      have y0 := HW5.out.2.cell 0
                      simp only [List.getElem?_toArray, List.getElem?_cons_zero] at y0
                      obtain ⟨d0, d1, d2, d3, d4, d5, d6, d7, d8, d9, d10⟩ := rbox_of HW5.out.1.box
                      obtain ⟨ga', capa', hva', _, hgl6, _, hcl6, hfl6, _⟩ := own_cells3 HW5.out.1.a (by rw [HLL.out]; omega)
                      injection hva' with e1 e2 e3
                      injection e1 with e1
                      injection e1 with e1
                      subst e1
                      clear e2 e3
                      obtain ⟨t0, t1, t2⟩ := hcl6 k _ HZZ.out
                      have f0 := hfl6 (k * 3)
                      have f1 := hfl6 (k * 3 + 1)
                      have f2 := hfl6 (k * 3 + 2)
                      have hN2 := HW5.out.1.setA (q := k) rfl (by rw [HLL.out]; exact hlt) (renAnd M (x0, x1, x2))
                      rw [HLS.out] at hN2
                      simp only [renAnd] at hN2
                      have HN2 := Lib.hid hN2.drew
                      have hgx : ga < gx := HHA.out
                      have s8 := d8
                      have HKE : Hid (((((w5.setCell ⟨ga, k * 3, none⟩ (.int .i64 (mvF M x0))).setCell ⟨ga, k * 3 + 1, none⟩ (.int .i64 (max (mvF M x1) (mvF M x2)))).setCell ⟨ga, k * 3 + 2, none⟩ (.int .i64 (min (mvF M x1) (mvF M x2))))).drew.cell? ⟨bo, 8, none⟩ = some (.slice (some ⟨ga, 0, none⟩) nA k7) ∧ ((((w5.setCell ⟨ga, k * 3, none⟩ (.int .i64 (mvF M x0))).setCell ⟨ga, k * 3 + 1, none⟩ (.int .i64 (max (mvF M x1) (mvF M x2)))).setCell ⟨ga, k * 3 + 2, none⟩ (.int .i64 (min (mvF M x1) (mvF M x2))))).drew.cell? ⟨gx, 0, none⟩ = some (.int .i64 x0)) := Lib.hid (by
                        have e2 := Blk.far (Blk.far (Blk.far HW5.out.2 (p := ⟨ga, k * 3, none⟩) (by simp; omega) (.int .i64 (mvF M x0))) (p := ⟨ga, k * 3 + 1, none⟩) (by simp; omega) (.int .i64 (max (mvF M x1) (mvF M x2)))) (p := ⟨ga, k * 3 + 2, none⟩) (by simp; omega) (.int .i64 (min (mvF M x1) (mvF M x2)))
                        exact ⟨hN2.drew.box.cell 8, e2.cell 0⟩)
                      clear hN2 hcl6 hfl6 d0 d1 d2 d3 d4 d5 d6 d7 d8 d9 d10
                      go_upto_region 36 with (fail)
                      go_region_held3 (fun w' => w'.cell? ⟨bo, 8, none⟩ = some (.slice (some ⟨ga, 0, none⟩) nA k7) ∧ w'.cell? ⟨gx, 0, none⟩ = some (.int .i64 x0)) (first | exact ⟨s8, y0⟩ | exact HKE.out | go_keep)
                        (first
                          | (go_at_call_of 49 x0; refine (HLIT.out _ x0 (show Nums _ w1.heap.size M from HW5.out.1.drew.nums) p0.1 p0.2).mono ?_; rintro e w5' ⟨rfl, rfl⟩))
                      all_goals (
                        go_wp2
                        go_roundg (nA - (k + 1))
                        case measure => omega
                        case rel => first
                          | exact ⟨k + 1, by omega, by go_num, rfl, HN2.out⟩
                          | ((repeat apply Exists.intro); exact ⟨⟨k + 1, by omega, by go_num, rfl, HN2.out⟩, rfl⟩))
                    · have hke : nA = k := by omega
                      subst hke
                      have hst := HST.out
                      rw [List.take_of_length_le (by rw [HLO.out]; exact Nat.le_refl _), List.drop_eq_nil_of_le (by rw [HNA.out]; exact Nat.le_refl _), List.append_nil] at hst
                      have HS6 := Lib.hid hst
                      clear hst HST hA HS5
                      obtain ⟨d0, d1, d2, d3, d4, d5, d6, d7, d8, d9, d10⟩ := rbox_of HS6.out.box
                      have fb0 := Blk.frozen HS6.out.box 0
                      have q9 : (2 * ((nI : Int) + nL + nA) + 2).tdiv 2 = (nI : Int) + nL + nA + 1 := by rw [tdiv_nn (by omega)]; omega
                      have q10 : IntKind.i64.wrap ((nI : Int) + nL + nA + 1) = (nI : Int) + nL + nA + 1 := by simp [IntKind.wrap, IntKind.bits, IntKind.signed]; omega
                      have q11 : (nI : Int) + nL + nA + 1 - 1 = (nI : Int) + nL + nA := by omega
                      have q12 : IntKind.i64.wrap ((nI : Int) + nL + nA) = (nI : Int) + nL + nA := by simp [IntKind.wrap, IntKind.bits, IntKind.signed]; omega
                      have HS7 := Lib.hid (HS6.out.setB 0 (.int .i64 ((nI : Int) + nL + nA)))
                      clear c0 c1 c2 c3 c4 c5 c6 c7 c8 c9 c10
                      go_upto_region 38 with (fail)
                      clear d0 d1 d2 d3 d4 d5 d6 d7 d8 d9 d10 q9 q10 q11 q12 fb0
                      have HS7' : Hid (RR w1 (wr.setCell ⟨bo, 0, none⟩ (.int .i64 ((nI : Int) + nL + nA))) (w1.heap.size + 1) w1.heap.size bo #[.int .i64 ((nI : Int) + nL + nA), .slice A0 nI k0, .slice A1 nL k1, .slice A2 n2 k2, .slice A3 n3 k3, .slice A4 n4 k4, .slice A5 nJ k5, .slice A6 n6 k6, .slice A7 nA k7, .slice A8 n8 k8, .slice A9 n9 k9] M ⟨.slice A0 nI k0, .slice A1 nL k1, .slice A2 n2 k2, .slice A3 n3 k3, .slice A4 n4 k4, .slice A5 nJ k5, .slice A6 n6 k6, .slice A7 nA k7, .slice A8 n8 k8, .slice A9 n9 k9⟩ (C.inputs.map (mvF M)) (C.latches.map (mvL M)) (out.map (fun g : Int => renAnd M (C.ands.getD g.toNat (0, 0, 0)))) C us) := Lib.hid HS7.out
                      generalize wr.setCell ⟨bo, 0, none⟩ (.int .i64 ((nI : Int) + nL + nA)) = W7 at *
                      have HSd := Lib.hid HS7'.out.drew
                      clear HS7 HS7' HS6
                      have HLITS := Lib.hid (fun (wx : World) (v : Value) (zs : List Int) (hx : Nums wx w1.heap.size M) (hr : RowE 1 encI wx v zs) (hz : ∀ z ∈ zs, 0 ≤ z ∧ z / 2 < (m : Int) + 1) (hn : zs.length * 8 ≤ 140737488355328) => by
                        have := rLits_any wx w1.heap.size M v zs hx HEV.out hr (fun z hz' => by have := hz z hz'; rw [HML.out]; push_cast; exact this) hn
                        rw [HML.out] at this
                        exact this)
                      have HLOK : Hid (∀ z, LitOk C z → 0 ≤ z ∧ z / 2 < (m : Int) + 1) := Lib.hid (fun z hz => by
                        obtain ⟨a1, a2⟩ := hz
                        rw [HMM.out] at a2
                        omega)
                      have HSK : Hid (∀ wx : World, Below w1.heap.size w1 wx → (fun w' => w'.cell? ⟨w.heap.size, 3, none⟩ = some Vo ∧ w'.cell? ⟨w.heap.size, 4, none⟩ = some Vb ∧ w'.cell? ⟨w.heap.size, 5, none⟩ = some Vc ∧ w'.cell? ⟨w.heap.size, 7, none⟩ = some Vf) wx) := Lib.hid (fun wx hx => by
                        obtain ⟨c0, c1, c2, c3, c4, c5, c6, c7, c8, c9, c10⟩ := rbox_of (HALL.out wx hx).1
                        exact ⟨c3, c4, c5, c7⟩)
                      have hne1 : ¬ bo = w.heap.size := by have h1 := HSd.out.bol; have h2 := HSZ1.out; omega
                      have hne2 : ¬ w.heap.size = bo := fun e => hne1 e.symm
                      go_region_held3 (fun w' => w'.cell? ⟨w.heap.size, 3, none⟩ = some Vo ∧ w'.cell? ⟨w.heap.size, 4, none⟩ = some Vb ∧ w'.cell? ⟨w.heap.size, 5, none⟩ = some Vc ∧ w'.cell? ⟨w.heap.size, 7, none⟩ = some Vf) (first | exact HSK.out _ HRf.out.below | exact HSK.out _ HRc.out.below | exact HSK.out _ HRb.out.below | exact HSK.out _ HRo.out.below | exact HSK.out _ HSd.out.below | go_keep)
                        (first
                          | (go_at_call_of 50 Vo; refine (HLITS.out _ Vo C.outputs HSd.out.nums (HALL.out _ HSd.out.below).2.1.o (fun z hz => HLOK.out z (HRT.out.o z hz)) HRM.out.o).mono ?_; rintro e w9 ⟨v9, rfl, h9, hb⟩; have h9b := own_base h9 (B' := w1.heap.size + 1) (by have := Blk.lt HSd.out.box; have := HSd.out.bol; omega); obtain ⟨Bo, ko, rfl⟩ := own_slice h9b; have HOo := Lib.hid h9b;  have HRo := Lib.hid (HSd.out.on hb); clear h9 h9b hb; skip)
                          | (go_at_call_of 50 Vb; refine (HLITS.out _ Vb C.bads HRo.out.nums (HALL.out _ HRo.out.below).2.1.b (fun z hz => HLOK.out z (HRT.out.b z hz)) HRM.out.b).mono ?_; rintro e w9 ⟨v9, rfl, h9, hb⟩; have h9b := own_base h9 (B' := w1.heap.size + 1) (by have := Blk.lt HRo.out.box; have := HRo.out.bol; omega); obtain ⟨Bb, kb, rfl⟩ := own_slice h9b; have HOb := Lib.hid h9b; have HXo := Lib.hid (own_below HOo.out hb); clear HOo; have HOo := HXo; clear HXo; have HRb := Lib.hid (HRo.out.on hb); clear h9 h9b hb; skip)
                          | (go_at_call_of 50 Vc; refine (HLITS.out _ Vc C.constraints HRb.out.nums (HALL.out _ HRb.out.below).2.1.c (fun z hz => HLOK.out z (HRT.out.c z hz)) HRM.out.c).mono ?_; rintro e w9 ⟨v9, rfl, h9, hb⟩; have h9b := own_base h9 (B' := w1.heap.size + 1) (by have := Blk.lt HRb.out.box; have := HRb.out.bol; omega); obtain ⟨Bk, kc, rfl⟩ := own_slice h9b; have HOc := Lib.hid h9b; have HXo := Lib.hid (own_below HOo.out hb); clear HOo; have HOo := HXo; clear HXo; have HXb := Lib.hid (own_below HOb.out hb); clear HOb; have HOb := HXb; clear HXb; have HRc := Lib.hid (HRb.out.on hb); clear h9 h9b hb; skip)
                          | (go_at_call_of 50 Vf; refine (HLITS.out _ Vf C.fairness HRc.out.nums (HALL.out _ HRc.out.below).2.1.f (fun z hz => HLOK.out z (HRT.out.f z hz)) HRM.out.f).mono ?_; rintro e w9 ⟨v9, rfl, h9, hb⟩; have h9b := own_base h9 (B' := w1.heap.size + 1) (by have := Blk.lt HRc.out.box; have := HRc.out.bol; omega); obtain ⟨Bf, kf, rfl⟩ := own_slice h9b; have HOf := Lib.hid h9b; have HXo := Lib.hid (own_below HOo.out hb); clear HOo; have HOo := HXo; clear HXo; have HXb := Lib.hid (own_below HOb.out hb); clear HOb; have HOb := HXb; clear HXb; have HXc := Lib.hid (own_below HOc.out hb); clear HOc; have HOc := HXc; clear HXc; have HRf := Lib.hid (HRc.out.on hb); clear h9 h9b hb; obtain ⟨d0, d1, d2, d3, d4, d5, d6, d7, d8, d9, d10⟩ := rbox_of HRf.out.box; obtain ⟨z0, z1, z2, z3, z4, z5, z6, z7, z8, z9, z10⟩ := blk_frozen11 HRf.out.box; skip))
                      have HS8 : Hid (RR w1 ((((w9.setCell ⟨bo, 3, none⟩ (.slice Bo C.outputs.length ko)).setCell ⟨bo, 4, none⟩ (.slice Bb C.bads.length kb)).setCell ⟨bo, 5, none⟩ (.slice Bk C.constraints.length kc)).setCell ⟨bo, 7, none⟩ (.slice Bf C.fairness.length kf)) (w1.heap.size + 1) w1.heap.size bo #[.int .i64 ((nI : Int) + nL + nA), .slice A0 nI k0, .slice A1 nL k1, .slice Bo C.outputs.length ko, .slice Bb C.bads.length kb, .slice Bk C.constraints.length kc, .slice A5 nJ k5, .slice Bf C.fairness.length kf, .slice A7 nA k7, .slice A8 n8 k8, .slice A9 n9 k9] M ⟨.slice A0 nI k0, .slice A1 nL k1, .slice A2 n2 k2, .slice A3 n3 k3, .slice A4 n4 k4, .slice A5 nJ k5, .slice A6 n6 k6, .slice A7 nA k7, .slice A8 n8 k8, .slice A9 n9 k9⟩ (C.inputs.map (mvF M)) (C.latches.map (mvL M)) (out.map (fun g : Int => renAnd M (C.ands.getD g.toNat (0, 0, 0)))) C us) := Lib.hid ((((HRf.out.setB 3 _).setB 4 _).setB 5 _).setB 7 _)
                      have HROW : Hid (∀ x : World, x = ((((w9.setCell ⟨bo, 3, none⟩ (.slice Bo C.outputs.length ko)).setCell ⟨bo, 4, none⟩ (.slice Bb C.bads.length kb)).setCell ⟨bo, 5, none⟩ (.slice Bk C.constraints.length kc)).setCell ⟨bo, 7, none⟩ (.slice Bf C.fairness.length kf)) → x.ownsRow (w1.heap.size + 1) 3 1 (.slice Bo C.outputs.length ko) C.outputs.length ((C.outputs.map (mvF M)).map (Value.int .i64)) ∧ x.ownsRow (w1.heap.size + 1) 3 1 (.slice Bb C.bads.length kb) C.bads.length ((C.bads.map (mvF M)).map (Value.int .i64)) ∧ x.ownsRow (w1.heap.size + 1) 3 1 (.slice Bk C.constraints.length kc) C.constraints.length ((C.constraints.map (mvF M)).map (Value.int .i64)) ∧ x.ownsRow (w1.heap.size + 1) 3 1 (.slice Bf C.fairness.length kf) C.fairness.length ((C.fairness.map (mvF M)).map (Value.int .i64))) := Lib.hid (fun x hx => by
                        subst hx
                        have hf := HRf.out.box
                        have key : ∀ {n : Nat} {v : Value} {xs : List Value}, w9.ownsRow (w1.heap.size + 1) 3 1 v n xs → ((((w9.setCell ⟨bo, 3, none⟩ (.slice Bo C.outputs.length ko)).setCell ⟨bo, 4, none⟩ (.slice Bb C.bads.length kb)).setCell ⟨bo, 5, none⟩ (.slice Bk C.constraints.length kc)).setCell ⟨bo, 7, none⟩ (.slice Bf C.fairness.length kf)).ownsRow (w1.heap.size + 1) 3 1 v n xs := fun h =>
                          own_far (own_far (own_far (own_far h hf (by decide) _ _) (Blk.set_ hf 3 _) (by decide) _ _) (Blk.set_ (Blk.set_ hf 3 _) 4 _) (by decide) _ _) (Blk.set_ (Blk.set_ (Blk.set_ hf 3 _) 4 _) 5 _) (by decide) _ _
                        exact ⟨key HOo.out, key HOb.out, key HOc.out, key HOf.out⟩)
                      clear HRf HRc HRb HRo HOo HOb HOc HOf HSd d0 d1 d2 d3 d4 d5 d6 d7 d8 d9 d10 z0 z1 z2 z3 z4 z5 z6 z7 z8 z9 z10
                      have HRW8 := Lib.hid (HROW.out _ rfl)
                      clear HROW
                      generalize ((((w9.setCell ⟨bo, 3, none⟩ (.slice Bo C.outputs.length ko)).setCell ⟨bo, 4, none⟩ (.slice Bb C.bads.length kb)).setCell ⟨bo, 5, none⟩ (.slice Bk C.constraints.length kc)).setCell ⟨bo, 7, none⟩ (.slice Bf C.fairness.length kf)) = X8 at *
                      go_wp2
                      go_loopg [20] nJ (fun j iv wx => ∃ (k : Nat) (us2 : List Value), k ≤ nJ ∧ iv = .int .i64 k ∧ j = nJ - k ∧ us2.length = nJ ∧ RR w1 wx (w1.heap.size + 1) w1.heap.size bo #[.int .i64 ((nI : Int) + nL + nA), .slice A0 nI k0, .slice A1 nL k1, .slice Bo C.outputs.length ko, .slice Bb C.bads.length kb, .slice Bk C.constraints.length kc, .slice A5 nJ k5, .slice Bf C.fairness.length kf, .slice A7 nA k7, .slice A8 n8 k8, .slice A9 n9 k9] M ⟨.slice A0 nI k0, .slice A1 nL k1, .slice A2 n2 k2, .slice A3 n3 k3, .slice A4 n4 k4, .slice A5 nJ k5, .slice A6 n6 k6, .slice A7 nA k7, .slice A8 n8 k8, .slice A9 n9 k9⟩ (C.inputs.map (mvF M)) (C.latches.map (mvL M)) (out.map (fun g : Int => renAnd M (C.ands.getD g.toNat (0, 0, 0)))) C (us2) ∧ (wx.ownsRow (w1.heap.size + 1) 3 1 (.slice Bo C.outputs.length ko) C.outputs.length ((C.outputs.map (mvF M)).map (Value.int .i64)) ∧ wx.ownsRow (w1.heap.size + 1) 3 1 (.slice Bb C.bads.length kb) C.bads.length ((C.bads.map (mvF M)).map (Value.int .i64)) ∧ wx.ownsRow (w1.heap.size + 1) 3 1 (.slice Bk C.constraints.length kc) C.constraints.length ((C.constraints.map (mvF M)).map (Value.int .i64)) ∧ wx.ownsRow (w1.heap.size + 1) 3 1 (.slice Bf C.fairness.length kf) C.fairness.length ((C.fairness.map (mvF M)).map (Value.int .i64))) ∧ (∀ (i : Nat) (u : Value) (zs : List Int), i < k → (us2)[i]? = some u → C.justice[i]? = some zs → wx.ownsRow (w1.heap.size + 1) 3 1 u zs.length ((zs.map (mvF M)).map (Value.int .i64))))
                      case atStart => exact ⟨0, us, Nat.zero_le _, rfl, rfl, HUL.out, HS8.out, HRW8.out, fun i u zs hi => absurd hi (Nat.not_lt_zero _)⟩
                      case round =>
                        obtain ⟨k, us2, hk, rfl, hgk, hul, hst, hrows, heach⟩ := hrel
                        subst hgk
                        have HST := Lib.hid hst
                        have HRWS := Lib.hid hrows
                        have HEA := Lib.hid heach
                        have HUL2 := Lib.hid hul
                        clear hst hrows heach hul
                        have hA := HALL.out _ HST.out.below
                        obtain ⟨c0, c1, c2, c3, c4, c5, c6, c7, c8, c9, c10⟩ := rbox_of hA.1
                        by_cases hlt : k < nJ
                        · have hx := List.getElem?_eq_getElem (l := C.justice) (i := k) (by rw [HNJ.out]; exact hlt)
                          generalize C.justice[k]'(by rw [HNJ.out]; exact hlt) = x at hx
                          obtain ⟨A', c', eA', _, hat⟩ := (HALL.out w1 (Below.refl _ _)).2.1.j.at_
                          injection eA' with g1 g2 g3
                          subst g1
                          clear g2 g3
                          obtain ⟨b, off, u0, rfl, hb, hcell, hrow⟩ := hat k x hx
                          have HXO := Lib.hid (HRT.out.j x (List.mem_of_getElem? hx))
                          have HXL := Lib.hid (HRM.out.js x (List.mem_of_getElem? hx))
                          have HX := Lib.hid hx
                          have hj := HST.out.j
                          obtain ⟨gj, capj, hvj⟩ : ∃ g cap, Value.slice A5 nJ k5 = .slice (some ⟨g, 0, none⟩) nJ cap := by
                            rcases hj.2 with ⟨hv, hn0⟩ | ⟨g', cap', cur, hv, _⟩
                            · have := HUL2.out; omega
                            · refine ⟨g', cap', ?_⟩
                              have e : us2.length = nJ := HUL2.out
                              rw [e] at hv
                              exact hv
                          injection hvj with e1 e2 e3
                          subst e1
                          clear e2 e3
                          have HROWX := Lib.hid (fun (wx : World) (hb2 : Below w1.heap.size w1 wx) => hrow.below hb2)
                          have HSK6 : Hid (∀ (wx : World) (us3 : List Value), RR w1 wx (w1.heap.size + 1) w1.heap.size bo #[.int .i64 ((nI : Int) + nL + nA), .slice A0 nI k0, .slice A1 nL k1, .slice Bo C.outputs.length ko, .slice Bb C.bads.length kb, .slice Bk C.constraints.length kc, .slice (some ⟨gj, 0, none⟩) nJ k5, .slice Bf C.fairness.length kf, .slice A7 nA k7, .slice A8 n8 k8, .slice A9 n9 k9] M ⟨.slice A0 nI k0, .slice A1 nL k1, .slice A2 n2 k2, .slice A3 n3 k3, .slice A4 n4 k4, .slice (some ⟨gj, 0, none⟩) nJ k5, .slice A6 n6 k6, .slice A7 nA k7, .slice A8 n8 k8, .slice A9 n9 k9⟩ (C.inputs.map (mvF M)) (C.latches.map (mvL M)) (out.map (fun g : Int => renAnd M (C.ands.getD g.toNat (0, 0, 0)))) C (us3) → (fun w' => w'.cell? ⟨bo, 6, none⟩ = some (.slice (some ⟨gj, 0, none⟩) nJ k5) ∧ w'.cell? ⟨w.heap.size, 6, none⟩ = some (.slice (some ⟨b, off, none⟩) nJ cJ) ∧ w'.cell? ⟨b, off + k, none⟩ = some u0) wx) := Lib.hid (fun wx us3 hx => by
                            obtain ⟨c0, c1, c2, c3, c4, c5, c6, c7, c8, c9, c10⟩ := rbox_of (HALL.out wx hx.below).1
                            obtain ⟨d0, d1, d2, d3, d4, d5, d6, d7, d8, d9, d10⟩ := rbox_of hx.box
                            exact ⟨d6, c6, (hx.below.cell (p := ⟨b, off + k, none⟩) hb).trans hcell⟩)
                          have HSD := Lib.hid HST.out.drew
                          have HRWD : Hid (wr.drew.ownsRow (w1.heap.size + 1) 3 1 (.slice Bo C.outputs.length ko) C.outputs.length ((C.outputs.map (mvF M)).map (Value.int .i64)) ∧ wr.drew.ownsRow (w1.heap.size + 1) 3 1 (.slice Bb C.bads.length kb) C.bads.length ((C.bads.map (mvF M)).map (Value.int .i64)) ∧ wr.drew.ownsRow (w1.heap.size + 1) 3 1 (.slice Bk C.constraints.length kc) C.constraints.length ((C.constraints.map (mvF M)).map (Value.int .i64)) ∧ wr.drew.ownsRow (w1.heap.size + 1) 3 1 (.slice Bf C.fairness.length kf) C.fairness.length ((C.fairness.map (mvF M)).map (Value.int .i64))) := Lib.hid ⟨own_of_block HRWS.out.1 fun _ _ => rfl, own_of_block HRWS.out.2.1 fun _ _ => rfl, own_of_block HRWS.out.2.2.1 fun _ _ => rfl, own_of_block HRWS.out.2.2.2 fun _ _ => rfl⟩
                          have HEAD : Hid (∀ (i : Nat) (u : Value) (zs : List Int), i < k → (us2)[i]? = some u → C.justice[i]? = some zs → wr.drew.ownsRow (w1.heap.size + 1) 3 1 u zs.length ((zs.map (mvF M)).map (Value.int .i64))) := Lib.hid (fun i u zs h1 h2 h3 => own_of_block (HEA.out i u zs h1 h2 h3) fun _ _ => rfl)
                          have hk0 : (0 : Int) ≤ (k : Int) := by omega
                          have hk1 : (k : Int) < (nJ : Int) := by omega
                          have hgjb : w1.heap.size + 1 ≤ gj := by
                            rw [HUL2.out] at hj
                            exact (own_set1 hj hlt undef).1
                          have hne3 : ¬ gj = b := by omega
                          have hne4 : ¬ b = gj := by omega
                          clear hx hat hrow hcell hA hj
                          go_upto_region 42 with (fail)
                          clear c0 c1 c2 c3 c4 c5 c6 c7 c8 c9 c10
                          go_region_held3 (fun w' => w'.cell? ⟨bo, 6, none⟩ = some (.slice (some ⟨gj, 0, none⟩) nJ k5) ∧ w'.cell? ⟨w.heap.size, 6, none⟩ = some (.slice (some ⟨b, off, none⟩) nJ cJ) ∧ w'.cell? ⟨b, off + k, none⟩ = some u0) (first | exact HSK6.out _ _ HR9.out | exact HSK6.out _ _ HSD.out | exact HSK6.out _ _ HN9.out | go_keep)
                            (first
                              | (go_at_call 50; refine (HLITS.out _ u0 x HSD.out.nums (HROWX.out _ HSD.out.below) (fun z hz => HLOK.out z (HXO.out z hz)) HXL.out).mono ?_; rintro e w9' ⟨v9, rfl, h9, hb9⟩; have h9b := own_base h9 (B' := w1.heap.size + 1) (by have := Blk.lt HSD.out.box; have := HSD.out.bol; omega); obtain ⟨Bn, kn, rfl⟩ := own_slice h9b; have HO9 := Lib.hid h9b; have HR9 := Lib.hid (HSD.out.on hb9); have HRW9 : Hid (w9'.ownsRow (w1.heap.size + 1) 3 1 (.slice Bo C.outputs.length ko) C.outputs.length ((C.outputs.map (mvF M)).map (Value.int .i64)) ∧ w9'.ownsRow (w1.heap.size + 1) 3 1 (.slice Bb C.bads.length kb) C.bads.length ((C.bads.map (mvF M)).map (Value.int .i64)) ∧ w9'.ownsRow (w1.heap.size + 1) 3 1 (.slice Bk C.constraints.length kc) C.constraints.length ((C.constraints.map (mvF M)).map (Value.int .i64)) ∧ w9'.ownsRow (w1.heap.size + 1) 3 1 (.slice Bf C.fairness.length kf) C.fairness.length ((C.fairness.map (mvF M)).map (Value.int .i64))) := Lib.hid ⟨own_below HRWD.out.1 hb9, own_below HRWD.out.2.1 hb9, own_below HRWD.out.2.2.1 hb9, own_below HRWD.out.2.2.2 hb9⟩; have HEA9 : Hid (∀ (i : Nat) (u : Value) (zs : List Int), i < k → (us2)[i]? = some u → C.justice[i]? = some zs → w9'.ownsRow (w1.heap.size + 1) 3 1 u zs.length ((zs.map (mvF M)).map (Value.int .i64))) := Lib.hid (fun i u zs h1 h2 h3 => own_below (HEAD.out i u zs h1 h2 h3) hb9); have HN9 := Lib.hid (HR9.out.setJ (q := k) rfl (by rw [HUL2.out]; exact hlt) (.slice Bn x.length kn)); have hj9 := HR9.out.j; rw [HUL2.out] at hj9; obtain ⟨_, hcs9, hfz9, hcl9, _⟩ := own_set1 hj9 hlt undef; have HCS9 := Lib.hid hcs9; have fz9 := hfz9 k; rw [List.getElem?_eq_getElem (by rw [HUL2.out]; exact hlt)] at hcl9; clear h9 h9b hb9 hj9 hcs9 hfz9))
                          have HRWN : Hid ((w9'.setCell ⟨gj, k, none⟩ (.slice Bn x.length kn)).ownsRow (w1.heap.size + 1) 3 1 (.slice Bo C.outputs.length ko) C.outputs.length ((C.outputs.map (mvF M)).map (Value.int .i64)) ∧ (w9'.setCell ⟨gj, k, none⟩ (.slice Bn x.length kn)).ownsRow (w1.heap.size + 1) 3 1 (.slice Bb C.bads.length kb) C.bads.length ((C.bads.map (mvF M)).map (Value.int .i64)) ∧ (w9'.setCell ⟨gj, k, none⟩ (.slice Bn x.length kn)).ownsRow (w1.heap.size + 1) 3 1 (.slice Bk C.constraints.length kc) C.constraints.length ((C.constraints.map (mvF M)).map (Value.int .i64)) ∧ (w9'.setCell ⟨gj, k, none⟩ (.slice Bn x.length kn)).ownsRow (w1.heap.size + 1) 3 1 (.slice Bf C.fairness.length kf) C.fairness.length ((C.fairness.map (mvF M)).map (Value.int .i64))) := Lib.hid (by
                            obtain ⟨cs, hcs⟩ := HCS9.out
                            exact ⟨own_far HRW9.out.1 hcs (by decide) _ _, own_far HRW9.out.2.1 hcs (by decide) _ _, own_far HRW9.out.2.2.1 hcs (by decide) _ _, own_far HRW9.out.2.2.2 hcs (by decide) _ _⟩)
                          have HEAN : Hid (∀ (i : Nat) (u : Value) (zs : List Int), i < (k + 1) → (us2.set k (.slice Bn x.length kn))[i]? = some u → C.justice[i]? = some zs → (w9'.setCell ⟨gj, k, none⟩ (.slice Bn x.length kn)).ownsRow (w1.heap.size + 1) 3 1 u zs.length ((zs.map (mvF M)).map (Value.int .i64))) := Lib.hid (fun i u zs h1 h2 h3 => by
                            obtain ⟨cs, hcs⟩ := HCS9.out
                            rw [List.getElem?_set] at h2
                            by_cases e : k = i
                            · subst e
                              rw [if_pos rfl, if_pos (by rw [HUL2.out]; exact hlt)] at h2
                              injection h2 with h2
                              rw [HX.out] at h3
                              injection h3 with h3
                              subst h2 h3
                              exact own_far HO9.out hcs (by decide) _ _
                            · rw [if_neg e] at h2
                              exact own_far (HEA9.out i u zs (by omega) h2 h3) hcs (by decide) _ _)
                          clear hcl9 fz9
                          go_wp2
                          go_roundg (nJ - (k + 1))
                          case measure => omega
                          case rel => first
                            | exact ⟨k + 1, _, by omega, by go_num, rfl, by rw [List.length_set]; exact HUL2.out, HN9.out, HRWN.out, HEAN.out⟩
                            | ((repeat apply Exists.intro); exact ⟨⟨k + 1, _, by omega, by go_num, rfl, by rw [List.length_set]; exact HUL2.out, HN9.out, HRWN.out, HEAN.out⟩, rfl⟩)
                        · have hke : nJ = k := by omega
                          subst hke
                          have hHZ := hA.2.2.1
                          obtain ⟨z0, z1, z2, z3, z4, z5, z6, z7, z8, z9, z10⟩ := rbox_of hHZ
                          obtain ⟨y0, y1, y2, y3, y4, y5, y6, y7, y8, y9, y10⟩ := blk_frozen11 hHZ
                          obtain ⟨d0, d1, d2, d3, d4, d5, d6, d7, d8, d9, d10⟩ := rbox_of HST.out.box
                          have hR9 := set11_blk hHZ (.int .i64 ((nI : Int) + nL + nA)) (.slice A0 nI k0) (.slice A1 nL k1) (.slice Bo C.outputs.length ko) (.slice Bb C.bads.length kb) (.slice Bk C.constraints.length kc) (.slice A5 nJ k5) (.slice Bf C.fairness.length kf) (.slice A7 nA k7) (.slice A8 n8 k8) (.slice A9 n9 k9)
                          have hB9 : Below w.heap.size w (set11 wr (w.heap.size + 1) (.int .i64 ((nI : Int) + nL + nA)) (.slice A0 nI k0) (.slice A1 nL k1) (.slice Bo C.outputs.length ko) (.slice Bb C.bads.length kb) (.slice Bk C.constraints.length kc) (.slice A5 nJ k5) (.slice Bf C.fairness.length kf) (.slice A7 nA k7) (.slice A8 n8 k8) (.slice A9 n9 k9)) := set11_below hA.2.2.2.2 (Nat.le_succ _) (.int .i64 ((nI : Int) + nL + nA)) (.slice A0 nI k0) (.slice A1 nL k1) (.slice Bo C.outputs.length ko) (.slice Bb C.bads.length kb) (.slice Bk C.constraints.length kc) (.slice A5 nJ k5) (.slice Bf C.fairness.length kf) (.slice A7 nA k7) (.slice A8 n8 k8) (.slice A9 n9 k9)
                          have hO9 : ∀ g, w1.heap.size ≤ g → (set11 wr (w.heap.size + 1) (.int .i64 ((nI : Int) + nL + nA)) (.slice A0 nI k0) (.slice A1 nL k1) (.slice Bo C.outputs.length ko) (.slice Bb C.bads.length kb) (.slice Bk C.constraints.length kc) (.slice A5 nJ k5) (.slice Bf C.fairness.length kf) (.slice A7 nA k7) (.slice A8 n8 k8) (.slice A9 n9 k9)).heap[g]? = wr.heap[g]? := fun g hg => set11_other (by have := HSZ1.out; omega) (.int .i64 ((nI : Int) + nL + nA)) (.slice A0 nI k0) (.slice A1 nL k1) (.slice Bo C.outputs.length ko) (.slice Bb C.bads.length kb) (.slice Bk C.constraints.length kc) (.slice A5 nJ k5) (.slice Bf C.fairness.length kf) (.slice A7 nA k7) (.slice A8 n8 k8) (.slice A9 n9 k9)
                          obtain ⟨wq, hwq⟩ : ∃ wq, wq = (set11 wr (w.heap.size + 1) (.int .i64 ((nI : Int) + nL + nA)) (.slice A0 nI k0) (.slice A1 nL k1) (.slice Bo C.outputs.length ko) (.slice Bb C.bads.length kb) (.slice Bk C.constraints.length kc) (.slice A5 nJ k5) (.slice Bf C.fairness.length kf) (.slice A7 nA k7) (.slice A8 n8 k8) (.slice A9 n9 k9)) := ⟨_, rfl⟩
                          rw [← hwq] at hR9 hB9 hO9
                          unfold set11 at hwq
                          have HR9 := Lib.hid hR9
                          have HB9 := Lib.hid hB9
                          have HO9 := Lib.hid hO9
                          have HWQ := Lib.hid hwq
                          clear hR9 hB9 hO9 hwq hA hHZ
                          go_wp2
                          rw [← HWQ.out]
                          refine bodyPost_ret (results_cell_two (fn := Try.f19) (p := 2) (q := 3) (r := 4) rfl _ wq (w.heap.size + 1) 29 #[.int .i64 ((nI : Int) + nL + nA), .slice A0 nI k0, .slice A1 nL k1, .slice Bo C.outputs.length ko, .slice Bb C.bads.length kb, .slice Bk C.constraints.length kc, .slice A5 nJ k5, .slice Bf C.fairness.length kf, .slice A7 nA k7, .slice A8 n8 k8, .slice A9 n9 k9] (0, 0) _ rfl HR9.out Try.underlying29 rfl (by kernel_rfl) _ _ rfl rfl) rfl ?_
                          have hmx : (renC C out).max = ((nI : Int) + nL + nA) := by
                            show (C.inputs.length : Int) + C.latches.length + C.ands.length = _
                            rw [HNI.out, HNL.out, HNA.out]
                          have hw0 : w.heap.size ≤ w1.heap.size + 1 := by have := HSZ1.out; omega
                          have ho : ∀ {t : TypeId} {k n : Nat} {v : Value} {xs : List Value}, wr.ownsRow (w1.heap.size + 1) t k v n xs → wq.ownsRow w.heap.size t k v n xs := fun hr =>
                            own_base (own_of_block hr fun g hg => HO9.out g (by have := (hr.lt g hg).1; omega)) hw0
                          have hst := HST.out
                          have hr := HRWS.out
                          have hea := HEA.out
                          rw [← HM.out] at hst hr hea
                          refine ⟨HB9.out, ⟨.slice A0 nI k0, .slice A1 nL k1, .slice Bo C.outputs.length ko, .slice Bb C.bads.length kb, .slice Bk C.constraints.length kc, .slice A5 nJ k5, .slice Bf C.fairness.length kf, .slice A7 nA k7, .slice A8 n8 k8, .slice A9 n9 k9⟩, us2, .slice (some ⟨w1.heap.size, 0, none⟩) (m + 1) (m + 1), out, by rw [hmx]; rfl, HG1.out, by rw [HLO.out], ⟨?_, ?_, ?_, ?_, ?_, ⟨?_, ho hst.j, fun i u zs hu hz => ?_⟩, ?_, ?_, ho hst.s, ho hst.t⟩, ?_⟩
                          · have := ho hst.i
                            show World.ownsRow _ _ _ _ _ (C.inputs.map (mvF (newM C out))).length ((C.inputs.map (mvF (newM C out))).flatMap encI)
                            rw [flat_ints]
                            exact this
                          · exact ho hst.l
                          · have := ho hr.1
                            show World.ownsRow _ _ _ _ _ (C.outputs.map (mvF (newM C out))).length ((C.outputs.map (mvF (newM C out))).flatMap encI)
                            rw [flat_ints, List.length_map]
                            exact this
                          · have := ho hr.2.1
                            show World.ownsRow _ _ _ _ _ (C.bads.map (mvF (newM C out))).length ((C.bads.map (mvF (newM C out))).flatMap encI)
                            rw [flat_ints, List.length_map]
                            exact this
                          · have := ho hr.2.2.1
                            show World.ownsRow _ _ _ _ _ (C.constraints.map (mvF (newM C out))).length ((C.constraints.map (mvF (newM C out))).flatMap encI)
                            rw [flat_ints, List.length_map]
                            exact this
                          · show us2.length = (C.justice.map _).length
                            rw [List.length_map, HNJ.out]
                            exact HUL2.out
                          · have hz2 : (C.justice.map (fun zs => zs.map (mvF (newM C out))))[i]? = some zs := hz
                            rw [List.getElem?_map] at hz2
                            cases hj : C.justice[i]? with
                            | none => rw [hj] at hz2; cases hz2
                            | some z0 =>
                              rw [hj] at hz2
                              simp only [Option.map_some, Option.some.injEq] at hz2
                              subst hz2
                              have hi : i < nJ := by rw [← HNJ.out]; exact (List.getElem?_eq_some_iff.1 hj).1
                              have := ho (hea i u z0 hi hu hj)
                              rw [flat_ints, List.length_map]
                              exact this
                          · have := ho hr.2.2.2
                            show World.ownsRow _ _ _ _ _ (C.fairness.map (mvF (newM C out))).length ((C.fairness.map (mvF (newM C out))).flatMap encI)
                            rw [flat_ints, List.length_map]
                            exact this
                          · exact ho hst.a
                          · have hn : Nums wq w1.heap.size (newM C out) := (HO9.out _ (Nat.le_refl _)).trans hst.nums
                            have hml : (newM C out).length = m + 1 := by rw [HM.out]; exact HML.out
                            have := nums_own (B := w.heap.size) hn (by have := HSZ1.out; omega) (by rw [hml]; simp only [maxLen]; omega)
                            rw [hml] at this ⊢
                            exact this
end Go.Proofs.Ytjakckfmdfpekaa

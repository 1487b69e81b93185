/- PROVED HERE: TernSettles: for every circuit the statement's Go function returns true and leaves its argument as it was; the two listed tables of the program are tied to its text. No condition. -/
import Derived.Test.YtbeaicmjohlboaaGreatDoorTrnN
import Derived.Test.YtbeaicmjohlboaaGreatDoorTrnS
import Derived.Test.YtbeaicmjohlboaaGreatDoorRfO
import Derived.Test.YtbeaicmjohlboaaGreatDoorTrnX
import Derived.Test.YtbeaicmjohlboaaGreatDoorSpoilW
import Derived.Test.YtbeaicmjohlboaaGreatDoorTabC
import Derived.Test.YtbeaicmjohlboaaGreatDoorArgT
import Derived.Test.YtbeaicmjohlboaaGreatDoorCards
import Derived.SevenTiedAt
namespace Go.Proofs.YtbeaicmjohlboaaGreatDoor
open Go.RowKit

set_option maxHeartbeats 8000000 in
set_option maxRecDepth 100000 in
theorem rTResets_any (w : World) (V : CV) (C : Circ) (h : C.In w V) (ok : C.Ok) (htn : ∀ s ∈ C.comments, s.size ≤ maxLen) :
    Calls Tryz.prog 8 #[V.val C.max] w fun e w' => Below w.heap.size w w' ∧ ∃ v, e = .returned (.tuple #[v, .int .i64 (checkR C).2]) ∧ ((checkR C).2 ≠ 0 → v = .slice none 0 0) ∧
      ((checkR C).2 = 0 → ∃ g, v = .slice (some ⟨g, 0, none⟩) C.latches.length C.latches.length ∧ w.heap.size ≤ g ∧ Nums w' g (reset3 C)) := by
  have HCH := Lib.hid (fun (wx : World) (hx : C.In wx V) => rCheck_any wx V C hx ok htn)
  have hall : ∀ wz, Below (w.alloc (.cells (V.cells C.max) 29)).heap.size (w.alloc (.cells (V.cells C.max) 29)) wz → Blk wz w.heap.size 29 (V.cells C.max) ∧ C.In wz V ∧ Below w.heap.size w wz := fun wz hb => by
    have h1 : Below w.heap.size w wz := ((Below.refl w.heap.size w).alloc (Nat.le_refl _) _).trans (hb.mono (by simp))
    exact ⟨(Blk.new w _ _).below hb (by simp), h.below h1, h1⟩
  have HX : Hid (Below (w.alloc (.cells (V.cells C.max) 29)).heap.size (w.alloc (.cells (V.cells C.max) 29)) (w.alloc (.cells (V.cells C.max) 29))) := Lib.hid (Below.refl _ _)
  obtain ⟨AL, cL, eL, _, _, rL⟩ := h.l
  have HRL := Lib.hid rL
  obtain ⟨Vi, Vl, Vo, Vb, Vc, Vj, Vf, Va, Vs, Vt⟩ := V
  simp only at eL
  subst eL
  obtain ⟨m, hmm⟩ : ∃ m, C.max = m := ⟨_, rfl⟩
  obtain ⟨n, hn⟩ : ∃ n, C.latches.length = n := ⟨_, rfl⟩
  rw [hmm, hn] at hall HX HCH
  rw [hmm, hn]
  have HALL := Lib.hid hall
  have HMM := Lib.hid hmm
  have HN := Lib.hid hn
  clear hall hmm hn h ok rL
  obtain ⟨c0, c1, c2, c3, c4, c5, c6, c7, c8, c9, c10⟩ := rbox_of (HALL.out _ HX.out).1
  by_cases h0 : (checkR C).2 = 0
  · have hrt := right_of h0
    rw [h0] at HCH
    rw [h0]
    have hnl : n ≤ 16384 := by have := hrt.nl; rw [HN.out] at this; exact this
    have hmk := make_ints n (by omega)
    have HNX : Hid ((reset3 C).length = n) := Lib.hid (by rw [reset3_len]; exact HN.out)
    have HNA := Lib.hid (fun (k : Nat) (z : Tri) (hz : C.latches[k]? = some z) => (show (reset3 C)[k]? = some (min z.2.2 2) from by
      rw [reset3_at hz]
      have h1 := hrt.l z (List.mem_of_getElem? hz)
      have h2 := (fine_of h0).d.two z.1 (by unfold defsL; exact List.mem_append_left _ (List.mem_append_right _ (List.mem_map.2 ⟨z, List.mem_of_getElem? hz, rfl⟩)))
      congr 1
      by_cases e : z.2.2 = z.1
      · rw [if_pos e, e]; omega
      · rw [if_neg e]
        rcases h1.2.2 with q | q | q
        · rw [q]; rfl
        · rw [q]; rfl
        · exact absurd q e))
    clear h0 hrt
    generalize (checkR C).1 = fx at *
    generalize reset3 C = N at *
    go_enter Tryz.func8, Tryz.ntmps8
    go_upto_region 4 with (go_at_call 24; refine (HCH.out _ (HALL.out _ HX.out).2.1).mono ?_; rintro e w1 ⟨rfl, hb⟩; have HXN := Lib.hid (bt HX.out (Nat.le_refl _) hb); clear HX hb c0 c1 c2 c3 c4 c5 c6 c7 c8 c9 c10; have HX := HXN; clear HXN; obtain ⟨c0, c1, c2, c3, c4, c5, c6, c7, c8, c9, c10⟩ := rbox_of (HALL.out _ HX.out).1)
    have HS0 : Hid (VT w1 (w1.alloc (.cells (madeCells #[Value.int .i64 0] n) 3)) w.heap.size w1.heap.size #[.int .i64 m, Vi, .slice AL n cL, Vo, Vb, Vc, Vj, Vf, Va, Vs, Vt] (List.replicate n 0)) := by
      refine Lib.hid ⟨(Below.refl _ _).alloc (Nat.le_refl _) _, (HALL.out _ HX.out).1.alloc _, ?_⟩
      unfold Nums
      rw [← made_ints]
      exact Blk.new w1 3 _
    have HBX : Hid (w.heap.size < w1.heap.size) := Lib.hid (by have := (HALL.out _ HX.out).1.lt; exact this)
    have x2 := HS0.out.box.cell 2
    simp only [List.getElem?_toArray, List.getElem?_cons_zero, List.getElem?_cons_succ] at x2
    go_wp2
    go_loopg [7] n (fun k j wx => ∃ q : Nat, q ≤ n ∧ k = n - q ∧ j = .int .i64 q ∧ VT w1 wx w.heap.size w1.heap.size #[.int .i64 m, Vi, .slice AL n cL, Vo, Vb, Vc, Vj, Vf, Va, Vs, Vt] (N.take q ++ List.replicate (n - q) 0))
    case atStart => exact ⟨0, Nat.zero_le _, rfl, rfl, HS0.out⟩
    case round =>
      obtain ⟨q, hq, hgk, rfl, hst⟩ := hrel
      subst hgk
      have HST := Lib.hid hst
      clear hst x2
      have x2 := HST.out.box.cell 2
      simp only [List.getElem?_toArray, List.getElem?_cons_zero, List.getElem?_cons_succ] at x2
      by_cases hlt : q < n
      · obtain ⟨z, hz⟩ : ∃ z, C.latches[q]? = some z := ⟨_, List.getElem?_eq_getElem (by rw [HN.out]; exact hlt)⟩
        obtain ⟨b, off, e, hb, hcell⟩ := HRL.out q z hz
        subst e
        have HXZ := Lib.hid (HNA.out q z hz)
        obtain ⟨z0, z1, z2⟩ := z
        have hb9 : Below w.heap.size w wr := bt (HALL.out _ HX.out).2.2 (Nat.le_refl _) HST.out.below
        have h2 := (hb9.cell (p := ⟨b, off + (q * 3 + 2), none⟩) hb).trans (hcell 2 _ rfl)
        simp only [Nat.add_zero, ← Nat.add_assoc] at h2
        have htl : q < (N.take q ++ List.replicate (n - q) 0).length := by rw [fill3_len HNX.out hq]; exact hlt
        have hold := Nums.cell HST.out.tab (getD_int htl)
        have hfr := Blk.frozen HST.out.tab q
        have hgb := Blk.lt HST.out.tab
        simp only at HXZ
        have HV := Lib.hid (HST.out.set_ (by omega) (by have := HBX.out; omega) q (min z2 2))
        have hqi : (q : Int) < (n : Int) := by omega
        have hqi0 : (0 : Int) ≤ (q : Int) := by omega
        clear hcell hz htl hb9
        go_wp2
        go_roundg (n - (q + 1))
        case measure => omega
        case rel =>
          refine ⟨q + 1, by omega, rfl, by go_num, ?_⟩
          rw [← fill3_set HNX.out HXZ.out]
          exact HV.out
      · have hqe : n = q := by omega
        subst hqe
        have hend := HST.out
        rw [fill3_end HNX.out] at hend
        have HE := Lib.hid hend
        have hqi : ¬ (n : Int) < (n : Int) := by omega
        clear hend hlt hq
        go_wp2
        go_ret2
        first | exact ⟨bt (HALL.out _ HX.out).2.2 (Nat.le_refl _) HE.out.below, _, rfl, fun h => absurd rfl h, fun _ => ⟨w1.heap.size, rfl, (HALL.out _ HX.out).2.2.size, HE.out.tab⟩⟩ | exact ⟨bt (HALL.out _ HX.out).2.2 (Nat.le_refl _) HE.out.below, _, rfl, w1.heap.size, rfl, (HALL.out _ HX.out).2.2.size, HE.out.tab⟩
  · obtain ⟨r, hr⟩ : ∃ r, (checkR C).2 = r := ⟨_, rfl⟩
    rw [hr] at HCH h0
    rw [hr]
    have hq : (r != 0) = true := by simpa using h0
    have H0 := Lib.hid h0
    generalize (checkR C).1 = fx at *
    clear h0 hr
    go_enter Tryz.func8, Tryz.ntmps8
    go_wp2_with (go_at_call 24; refine (HCH.out _ (HALL.out _ HX.out).2.1).mono ?_; rintro e w1 ⟨rfl, hb⟩; have HXN := Lib.hid (bt HX.out (Nat.le_refl _) hb); clear HX hb c0 c1 c2 c3 c4 c5 c6 c7 c8 c9 c10; have HX := HXN; clear HXN; obtain ⟨c0, c1, c2, c3, c4, c5, c6, c7, c8, c9, c10⟩ := rbox_of (HALL.out _ HX.out).1)
    go_ret2
    exact ⟨(HALL.out _ HX.out).2.2, _, rfl, fun _ => rfl, fun h => absurd h H0.out⟩

set_option maxHeartbeats 4000000 in
set_option maxRecDepth 100000 in
theorem rTSame_any (w : World) (av bv : Value) (A B : List Int) (ha : RowE 1 encI w av A) (hb : RowE 1 encI w bv B) (hl : A.length = B.length) :
    Calls Tryz.prog 22 #[av, bv] w fun e w' => e = .returned (.bool (decide (A = B))) ∧ Below w.heap.size w w' := by
  obtain ⟨aA, ac, ea, _, ha2, hra⟩ := ha
  obtain ⟨bA, bc, eb, _, _, hrb⟩ := hb
  subst ea eb
  have HRA := Lib.hid hra
  have HRB := Lib.hid hrb
  obtain ⟨n, hn⟩ : ∃ n, A.length = n := ⟨_, rfl⟩
  have hn2 : B.length = n := by rw [← hl, hn]
  have hnm : n ≤ 9223372036854775807 := by unfold maxLen at ha2; omega
  obtain ⟨b, hbd⟩ : ∃ b, decide (A = B) = b := ⟨_, rfl⟩
  rw [hn, hn2, hbd]
  have HN := Lib.hid (And.intro hn hn2)
  have HBD := Lib.hid hbd
  clear hra hrb hl ha2 hn hn2 hbd
  have HB0 : Hid (Below w.heap.size w w) := Lib.hid (Below.refl _ _)
  go_enter Tryz.func22, Tryz.ntmps22
  go_wp2
  go_loopg [5] n (fun k j wx => ∃ q : Nat, q ≤ n ∧ k = n - q ∧ j = .int .i64 q ∧ Below w.heap.size w wx ∧ A.take q = B.take q)
  case atStart => exact ⟨0, Nat.zero_le _, rfl, rfl, HB0.out, by simp⟩
  case round =>
    obtain ⟨q, hq, hgk, rfl, hbw, htk⟩ := hrel
    subst hgk
    clear HB0
    have HBW := Lib.hid hbw
    have HTK := Lib.hid htk
    by_cases hlt : q < n
    · obtain ⟨x, hx⟩ : ∃ x, A[q]? = some x := ⟨_, List.getElem?_eq_getElem (by rw [HN.out.1]; exact hlt)⟩
      obtain ⟨y, hy⟩ : ∃ y, B[q]? = some y := ⟨_, List.getElem?_eq_getElem (by rw [HN.out.2]; exact hlt)⟩
      obtain ⟨g1, o1, e1, hb1, hc1⟩ := HRA.out q x hx
      obtain ⟨g2, o2, e2, hb2, hc2⟩ := HRB.out q y hy
      subst e1 e2
      have k1 := (hbw.cell (p := ⟨g1, o1 + (q * 1 + 0), none⟩) hb1).trans (hc1 0 _ rfl)
      have k2 := (hbw.cell (p := ⟨g2, o2 + (q * 1 + 0), none⟩) hb2).trans (hc2 0 _ rfl)
      simp only [Nat.mul_one, Nat.add_zero] at k1 k2
      have hqi : (q : Int) < (n : Int) := by omega
      have hqi0 : (0 : Int) ≤ (q : Int) := by omega
      have HDR := Lib.hid hbw.drew
      clear hc1 hc2 hbw htk
      go_upto_region 4 with (fail)
      by_cases hxy : x = y
      · subst hxy
        have HT2 : Hid (A.take (q + 1) = B.take (q + 1)) := Lib.hid (by rw [List.take_add_one, List.take_add_one, HTK.out, hx, hy])
        clear hx hy
        go_region
        go_wp2
        go_roundg (n - (q + 1))
        case measure => omega
        case rel => exact ⟨q + 1, by omega, rfl, by go_num, HDR.out, HT2.out⟩
      · have HF : Hid (b = false) := Lib.hid (by
          rw [← HBD.out]
          refine decide_eq_false (fun e => hxy ?_)
          rw [e, hy] at hx
          injection hx with hx
          exact hx.symm)
        have hq2 : (x != y) = true := by simpa using hxy
        clear hx hy
        go_region
        go_wp2
        go_ret
        exact ⟨ret_bool HF.out.symm, HDR.out⟩
    · have hqe : q = n := by omega
      have HF : Hid (b = true) := Lib.hid (by
        rw [← HBD.out]
        refine decide_eq_true ?_
        have := htk
        rwa [List.take_of_length_le (by rw [HN.out.1]; omega), List.take_of_length_le (by rw [HN.out.2]; omega)] at this)
      have hqi : ¬ (q : Int) < (n : Int) := by omega
      clear hbw htk
      go_wp2
      go_ret
      exact ⟨ret_bool HF.out.symm, HBW.out⟩

section
variable {C : Circ} {O : List Int}
theorem row3_join {A B : List Int} (h : Row3 A) : Row3 (join3 A B) := fun x hx => by
  unfold join3 at hx
  rw [List.mem_iff_getElem?] at hx
  obtain ⟨k, hk⟩ := hx
  rw [List.getElem?_zipWith] at hk
  cases ha : A[k]? with
  | none => rw [ha] at hk; simp at hk
  | some a =>
    cases hb : B[k]? with
    | none => rw [ha, hb] at hk; simp at hk
    | some b =>
      rw [ha, hb] at hk
      simp at hk
      subst hk
      split
      · exact h a (List.mem_of_getElem? ha)
      · exact .inr (.inr rfl)
theorem row3_next {T : List Int} (h : Row3 T) : Row3 (next3 C T) := fun x hx => by
  unfold next3 at hx
  obtain ⟨z, _, rfl⟩ := List.mem_map.1 hx
  exact lit3_v h _
end

set_option maxHeartbeats 8000000 in
set_option maxRecDepth 100000 in
theorem rTSettle_any (w : World) (V : CV) (C : Circ) (O : List Int) (h : C.In w V) (ok : C.Ok) (htn : ∀ s ∈ C.comments, s.size ≤ maxLen) (hO : (checkR C).2 = 0 → IsOrd C O) :
    Calls Tryz.prog 6 #[V.val C.max] w fun e w' => Below w.heap.size w w' ∧ ∃ v n, e = .returned (.tuple #[v, .int .i64 n, .int .i64 (checkR C).2]) ∧ ((checkR C).2 ≠ 0 → v = .slice none 0 0 ∧ n = 0) ∧
      ((checkR C).2 = 0 → n = ((settleR C O).2 : Int) ∧ ∃ g, v = .slice (some ⟨g, 0, none⟩) C.latches.length C.latches.length ∧ w.heap.size ≤ g ∧ Nums w' g (settleR C O).1) := by
  have HRE := Lib.hid (fun (wx : World) (hx : C.In wx V) => rTResets_any wx V C hx ok htn)
  have HST := Lib.hid (fun (wx : World) (sv rv : Value) (L : List Int) (hx : C.In wx V) (hy : RowE 1 encI wx sv L) (hz : RowE 1 encI wx rv (all2 C)) => rTStep_any wx V C sv rv L (all2 C) O hx ok htn hy hz hO)
  have hall : ∀ wz, Below (w.alloc (.cells (V.cells C.max) 29)).heap.size (w.alloc (.cells (V.cells C.max) 29)) wz → Blk wz w.heap.size 29 (V.cells C.max) ∧ C.In wz V ∧ Below w.heap.size w wz := fun wz hb => by
    have h1 : Below w.heap.size w wz := ((Below.refl w.heap.size w).alloc (Nat.le_refl _) _).trans (hb.mono (by simp))
    exact ⟨(Blk.new w _ _).below hb (by simp), h.below h1, h1⟩
  have HX : Hid (Below (w.alloc (.cells (V.cells C.max) 29)).heap.size (w.alloc (.cells (V.cells C.max) 29)) (w.alloc (.cells (V.cells C.max) 29))) := Lib.hid (Below.refl _ _)
  obtain ⟨AI, cI, eI, _, _, _⟩ := h.i
  obtain ⟨Vi, Vl, Vo, Vb, Vc, Vj, Vf, Va, Vs, Vt⟩ := V
  simp only at eI
  subst eI
  obtain ⟨m, hmm⟩ : ∃ m, C.max = m := ⟨_, rfl⟩
  obtain ⟨n, hn⟩ : ∃ n, C.latches.length = n := ⟨_, rfl⟩
  obtain ⟨nI, hnI⟩ : ∃ n, C.inputs.length = n := ⟨_, rfl⟩
  rw [hmm, hnI] at hall HX
  rw [hmm, hn, hnI] at HRE HST
  rw [hmm, hn, hnI]
  have HALL := Lib.hid hall
  have HMM := Lib.hid hmm
  have HN := Lib.hid hn
  have HNI := Lib.hid hnI
  clear hall hmm hn hnI h ok
  obtain ⟨c0, c1, c2, c3, c4, c5, c6, c7, c8, c9, c10⟩ := rbox_of (HALL.out _ HX.out).1
  by_cases h0 : (checkR C).2 = 0
  · have hrt := right_of h0
    have HCK := Lib.hid h0
    rw [h0] at HRE
    rw [h0]
    have hnl : n ≤ 16384 := by have := hrt.nl; rw [HN.out] at this; exact this
    have hni : nI ≤ 16384 := by have := hrt.ni; rw [HNI.out] at this; exact this
    have hmk := make_ints nI (by omega)
    have HRL : Hid ((reset3 C).length = n) := Lib.hid (by rw [reset3_len]; exact HN.out)
    have HR3 := Lib.hid (row3_reset hrt)
    have HFIT : Hid (∀ L, L.length = n → Row3 L → fit3 C L (all2 C) = 0) := Lib.hid (fun L h1 h2 => fit3_yes h0 (okRow_iff.2 ⟨by rw [HN.out]; exact h1, h2⟩) (okRow_iff.2 ⟨by simp [all2], row3_all2 C⟩))
    have HJ : Hid (∀ L N, L.length = n → Row3 L → N.length = n → Row3 N → joinE L N = 0) := Lib.hid (fun L N h1 h2 h3 h4 => by
      unfold joinE
      rw [if_neg (by omega), if_pos ⟨okRow_iff.2 ⟨by omega, h2⟩, okRow_iff.2 ⟨by omega, h4⟩⟩])
    have HA2 : Hid ((all2 C).length = nI) := Lib.hid (by simp [all2]; exact HNI.out)
    have HA3 : Hid (∀ k, k < nI → (all2 C)[k]? = some 2) := Lib.hid (fun k hk => by unfold all2; rw [List.getElem?_replicate, if_pos (by rw [HNI.out]; exact hk)])
    have HV3 : Hid (∀ L, Row3 L → Row3 (next3 C (val3 C O L (all2 C)))) := Lib.hid (fun L h1 => row3_next (row3_val h1 (row3_all2 C)))
    have HNX : Hid (∀ T, (next3 C T).length = n) := Lib.hid (fun T => by rw [next3_len]; exact HN.out)
    obtain ⟨L3, hL3⟩ : ∃ L, (settleR C O).1 = L := ⟨_, rfl⟩
    obtain ⟨N3, hN3⟩ : ∃ N, (settleR C O).2 = N := ⟨_, rfl⟩
    rw [hL3, hN3]
    have HSE : Hid (settleR C O = (L3, N3)) := Lib.hid (by rw [← hL3, ← hN3])
    have HFU : Hid (((reset3 C).filter (fun x => decide (x ≠ (2 : Int)))).length < n + 1) := Lib.hid (by have := List.length_filter_le (fun x => decide (x ≠ (2 : Int))) (reset3 C); rw [HRL.out] at this; omega)
    clear h0 hrt hL3 hN3
    go_enter Tryz.func6, Tryz.ntmps6
    go_upto_region 4 with (go_at_call 8; refine (HRE.out _ (HALL.out _ HX.out).2.1).mono ?_; rintro e w1 ⟨hb, v1, rfl, _, hyes⟩; obtain ⟨g1, rfl, hg1, ht1⟩ := hyes (by first | rfl | trivial); have HT1 := Lib.hid ht1; have HG1 := Lib.hid (Nat.le_trans (HALL.out _ HX.out).2.2.size hg1); clear hyes hg1 ht1; have HXN := Lib.hid (bt HX.out (Nat.le_refl _) hb); clear HX hb c0 c1 c2 c3 c4 c5 c6 c7 c8 c9 c10; have HX := HXN; clear HXN; obtain ⟨c0, c1, c2, c3, c4, c5, c6, c7, c8, c9, c10⟩ := rbox_of (HALL.out _ HX.out).1)
    have HS0 : Hid (Nums (w1.alloc (.cells (madeCells #[Value.int .i64 0] nI) 3)) w1.heap.size (List.replicate nI 0) ∧ Below w1.heap.size w1 (w1.alloc (.cells (madeCells #[Value.int .i64 0] nI) 3))) := by
      refine Lib.hid ⟨?_, (Below.refl _ _).alloc (Nat.le_refl _) _⟩
      unfold Nums
      rw [← made_ints]
      exact Blk.new w1 3 _
    have HGA : Hid (w.heap.size ≤ w1.heap.size) := Lib.hid (HALL.out _ HX.out).2.2.size
    go_upto_region 5 with (fail)
    clear c0 c1 c2 c3 c4 c5 c6 c7 c8 c9 c10 hmk
    go_wp2
    go_loopg [8] nI (fun j iv wx => ∃ q : Nat, q ≤ nI ∧ j = nI - q ∧ iv = .int .i64 q ∧ Below w1.heap.size w1 wx ∧ Nums wx w1.heap.size ((all2 C).take q ++ List.replicate (nI - q) 0))
    case atStart => exact ⟨0, Nat.zero_le _, rfl, rfl, HS0.out.2, HS0.out.1⟩
    case round =>
      obtain ⟨q, hq, hgk, rfl, hbw, hnu⟩ := hrel
      subst hgk
      clear HS0
      have HBW := Lib.hid hbw
      have HNU := Lib.hid hnu
      by_cases hlt : q < nI
      · have htl : q < ((all2 C).take q ++ List.replicate (nI - q) 0).length := by rw [fill3_len HA2.out hq]; exact hlt
        have hold := Nums.cell hnu (getD_int htl)
        have hfr := Blk.frozen hnu q
        have hgb := Blk.lt hnu
        have hqi : (q : Int) < (nI : Int) := by omega
        have hqi0 : (0 : Int) ≤ (q : Int) := by omega
        clear htl hnu hbw
        go_wp2
        go_roundg (nI - (q + 1))
        case measure => omega
        case rel =>
          refine ⟨q + 1, by omega, rfl, by go_num, HBW.out.setCell (by simp) _, ?_⟩
          rw [← fill3_set HA2.out (HA3.out q hlt)]
          exact Nums.set_ HNU.out q 2
      · have hqe : q = nI := by omega
        have HAN : Hid (Nums wr w1.heap.size (all2 C)) := Lib.hid (by have := hnu; rw [hqe, fill3_end HA2.out] at this; exact this)
        have hqi : ¬ (q : Int) < (nI : Int) := by omega
        have HT2 := Lib.hid (Blk.below HT1.out hbw (Blk.lt HT1.out))
        have HX2 := Lib.hid (bt HX.out (Nat.le_refl _) hbw)
        obtain ⟨W2, hW2⟩ : ∃ W2 : World, W2 = wr := ⟨_, rfl⟩
        subst hW2
        have HB0 : Hid (Below W2.heap.size W2 W2) := Lib.hid (Below.refl _ _)
        have HST0 : Hid (settle3 C O (n + 1) (reset3 C) 0 = (L3, N3)) := Lib.hid (by have := HSE.out; unfold settleR at this; rwa [HN.out] at this)
        clear hnu hbw HNU HT1
        go_wp2
        go_loopg [5, 9] (n + 1) (fun j sv nv wx => ∃ (q gv : Nat) (L : List Int), sv = .slice (some ⟨gv, 0, none⟩) n n ∧ nv = .int .i64 q ∧ q + j = n + 1 ∧ L.length = n ∧ Row3 L ∧ settle3 C O j L q = (L3, N3) ∧ (L.filter (fun x => decide (x ≠ (2 : Int)))).length < j ∧ w.heap.size ≤ gv ∧ Nums wx gv L ∧ Below W2.heap.size W2 wx)
        case atStart => exact ⟨0, g1, reset3 C, rfl, rfl, by omega, HRL.out, HR3.out, HST0.out, HFU.out, HG1.out, HT2.out, HB0.out⟩
        case round =>
          obtain ⟨q, gv, L, rfl, rfl, hqj, hLl, hL3, hst, hcnt, hgv, hnu, hbx⟩ := hrel
          clear HB0
          obtain ⟨f, hf⟩ : ∃ f, gk = f + 1 := ⟨gk - 1, by omega⟩
          subst hf
          have HBX := Lib.hid hbx
          have HNU := Lib.hid hnu
          have HLL := Lib.hid hLl
          have HL3 := Lib.hid hL3
          have HCN := Lib.hid hcnt
          have HGV := Lib.hid hgv
          obtain ⟨N, hN⟩ : ∃ N, next3 C (val3 C O L (all2 C)) = N := ⟨_, rfl⟩
          have HNL : Hid (N.length = n) := Lib.hid (by rw [← hN]; exact HNX.out _)
          have HN3 : Hid (Row3 N) := Lib.hid (by rw [← hN]; exact HV3.out L hL3)
          have hSS : stepS C O L = join3 L N := by unfold stepS; rw [hN]
          have hunf : settle3 C O (f + 1) L q = if join3 L N = L then (L, q) else settle3 C O f (join3 L N) (q + 1) := by show (if stepS C O L = L then (L, q) else settle3 C O f (stepS C O L) (q + 1)) = _; rw [hSS]
          rw [hunf] at hst
          have hrow := nums_row hnu (by rw [hLl]; unfold maxLen; omega)
          rw [hLl] at hrow
          have hany := nums_row (Blk.below HAN.out hbx (Blk.lt HAN.out)) (by rw [HA2.out]; unfold maxLen; omega)
          rw [HA2.out] at hany
          have hstep := HST.out wr _ _ L (HALL.out _ (bt HX2.out (Nat.le_refl _) hbx)).2.1 hrow hany
          rw [HFIT.out L hLl hL3, hN] at hstep
          have HSTEP := Lib.hid hstep
          have HJN : Hid (joinE L N = 0) := Lib.hid (HJ.out L N hLl hL3 HNL.out HN3.out)
          have HJL : Hid ((join3 L N).length = n) := Lib.hid (by rw [join3_len _ _ (by rw [hLl, HNL.out])]; exact hLl)
          have HJ3 : Hid (Row3 (join3 L N)) := Lib.hid (row3_join hL3)
          have HJC : Hid (join3 L N ≠ L → ((join3 L N).filter (fun x => decide (x ≠ (2 : Int)))).length < (L.filter (fun x => decide (x ≠ (2 : Int)))).length) := Lib.hid (fun hne => by
            have hnl : L.length = N.length := by rw [hLl, HNL.out]
            exact cnt_lt (join3_len _ _ hnl) (fun k => by
              rw [join3_get hnl]
              split
              · exact .inl rfl
              · exact .inr rfl) hne)
          have HRO := Lib.hid hrow
          have HSTT := Lib.hid hst
          obtain ⟨c0, c1, c2, c3, c4, c5, c6, c7, c8, c9, c10⟩ := rbox_of (HALL.out _ (bt HX2.out (Nat.le_refl _) hbx)).1
          have HQJ := Lib.hid hqj
          have hqb : (q : Int) ≤ 16384 := by omega
          clear hLl hL3 hst hcnt hgv hnu hbx hN hSS hunf hrow hany hstep hqj
          go_upto_region 12 with (go_at_call 20; refine HSTEP.out.mono ?_; rintro e w4 ⟨hb4, v4, rfl, _, hyes⟩; obtain ⟨g4, rfl, _, ht4⟩ := hyes (by first | rfl | trivial); have HB4 := Lib.hid hb4; have HT4 := Lib.hid ht4; clear hyes hb4 ht4 c0 c1 c2 c3 c4 c5 c6 c7 c8 c9 c10)
          have hr4 := nums_row HT4.out (by rw [HNL.out]; unfold maxLen; omega)
          rw [HNL.out] at hr4
          have hjoin := rTJoin_any w4 _ _ L N (HRO.out.below HB4.out) hr4
          rw [HJN.out, HLL.out] at hjoin
          have HJOIN := Lib.hid hjoin
          clear hr4 hjoin
          go_upto_region 13 with (go_at_call 21; refine HJOIN.out.mono ?_; rintro e w5 ⟨hb5, v5, rfl, _, hyes⟩; obtain ⟨g5, rfl, hg5, ht5⟩ := hyes (by first | rfl | trivial); have HB5 := Lib.hid (bt HB4.out (Nat.le_refl _) hb5); have HG5 := Lib.hid hg5; have HT5 := Lib.hid ht5; clear hyes hb5 hg5 ht5)
          have hr5 := nums_row HT5.out (by rw [HJL.out]; unfold maxLen; omega)
          rw [HJL.out] at hr5
          have hsame := rTSame_any w5 _ _ (join3 L N) L hr5 (HRO.out.below HB5.out) (by rw [HJL.out, HLL.out])
          clear hr5
          by_cases hjl : join3 L N = L
          · rw [decide_eq_true hjl] at hsame
            have HSAME := Lib.hid hsame
            have HFIN : Hid (L = L3 ∧ q = N3) := Lib.hid (by
              have := HSTT.out
              rw [if_pos hjl] at this
              exact ⟨congrArg Prod.fst this, congrArg Prod.snd this⟩)
            clear hsame hjl
            go_wp2_with (go_at_call 22; refine HSAME.out.mono ?_; rintro e w6 ⟨rfl, hb6⟩; have HB6 := Lib.hid (bt HB5.out (Nat.le_refl _) hb6); clear hb6)
            go_ret3
            obtain ⟨f1, f2⟩ := HFIN.out
            subst f1 f2
            exact ⟨(HALL.out _ (bt HX2.out (Nat.le_refl _) (bt HBX.out (Nat.le_refl _) HB6.out))).2.2, _, _, rfl, fun h => absurd rfl h, fun _ => ⟨rfl, gv, rfl, HGV.out, Blk.below HNU.out HB6.out (Blk.lt HNU.out)⟩⟩
          · rw [decide_eq_false hjl] at hsame
            have HSAME := Lib.hid hsame
            have HFIN : Hid (settle3 C O f (join3 L N) (q + 1) = (L3, N3)) := Lib.hid (by
              have := HSTT.out
              rwa [if_neg hjl] at this)
            have HCL := Lib.hid (HJC.out hjl)
            clear hsame hjl
            go_wp2_with (go_at_call 22; refine HSAME.out.mono ?_; rintro e w6 ⟨rfl, hb6⟩; have HB6 := Lib.hid (bt HB5.out (Nat.le_refl _) hb6); have HT6 := Lib.hid (Blk.below HT5.out hb6 (Blk.lt HT5.out)); clear hb6)
            go_roundg f
            case measure => omega
            case rel => exact ⟨q + 1, g5, join3 L N, rfl, by go_num, by have := HQJ.out; omega, HJL.out, HJ3.out, HFIN.out, by have := HCL.out; have := HCN.out; omega, (by have h1 := HG5.out; have h2 := HB4.out.size; have h3 := (HALL.out _ (bt HX2.out (Nat.le_refl _) HBX.out)).2.2.size; omega), HT6.out, bt HBX.out (Nat.le_refl _) HB6.out⟩
  · obtain ⟨r, hr⟩ : ∃ r, (checkR C).2 = r := ⟨_, rfl⟩
    rw [hr] at HRE h0
    rw [hr]
    have hq : (r != 0) = true := by simpa using h0
    have H0 := Lib.hid h0
    clear h0 hr
    go_enter Tryz.func6, Tryz.ntmps6
    go_wp2_with (go_at_call 8; refine (HRE.out _ (HALL.out _ HX.out).2.1).mono ?_; rintro e w1 ⟨hb, v1, rfl, hno, _⟩; obtain rfl := hno H0.out; clear hno; have HXN := Lib.hid (bt HX.out (Nat.le_refl _) hb); clear HX hb c0 c1 c2 c3 c4 c5 c6 c7 c8 c9 c10; have HX := HXN; clear HXN; obtain ⟨c0, c1, c2, c3, c4, c5, c6, c7, c8, c9, c10⟩ := rbox_of (HALL.out _ HX.out).1)
    go_ret3
    exact ⟨(HALL.out _ HX.out).2.2, _, 0, rfl, fun _ => ⟨rfl, rfl⟩, fun h => absurd h H0.out⟩
end Go.Proofs.YtbeaicmjohlboaaGreatDoor

namespace Go.Proofs.YtbeaicmjohlboaaGreatDoor
open Go.RowKit

def settleI (C : Circ) (O : List Int) : List Int := if (checkR C).2 = 0 then (settleR C O).1 else []
def settleN (C : Circ) (O : List Int) : Int := if (checkR C).2 = 0 then ((settleR C O).2 : Int) else 0
def resetI (C : Circ) : List Int := if (checkR C).2 = 0 then reset3 C else []
section
variable {w : World} {V : CV} {C : Circ} {O : List Int}
theorem tSettle_own (h : C.In w V) (ok : C.Ok) (ht : TabC w) (hO : (checkR C).2 = 0 → IsOrd C O) :
    Calls Tryz.prog 5 #[V.val C.max] w fun e w' => Below w.heap.size w w' ∧ ∃ v, e = .returned (.tuple #[v, .int .i64 (settleN C O), .int .i64 (checkR C).2]) ∧ w'.ownsRow w.heap.size 3 1 v (settleI C O).length ((settleI C O).map (Value.int .i64)) := by
  refine (tSettle_any w V C O h ok ht hO).mono ?_
  rintro e w' ⟨hb, v, n, rfl, hno, hyes⟩
  unfold settleI settleN
  by_cases h0 : (checkR C).2 = 0
  · rw [if_pos h0, if_pos h0]
    obtain ⟨rfl, g, rfl, hg, ht⟩ := hyes h0
    refine ⟨hb, _, rfl, ?_⟩
    have := nums_ownT ht hg (by rw [settleR_len]; have := (right_of h0).nl; unfold maxLen; omega)
    rw [settleR_len] at this ⊢
    exact this
  · rw [if_neg h0, if_neg h0]
    obtain ⟨rfl, rfl⟩ := hno h0
    exact ⟨hb, _, rfl, nil_ownI _ _⟩
theorem rTSettle_own (h : C.In w V) (ok : C.Ok) (htn : ∀ s ∈ C.comments, s.size ≤ maxLen) (hO : (checkR C).2 = 0 → IsOrd C O) :
    Calls Tryz.prog 6 #[V.val C.max] w fun e w' => Below w.heap.size w w' ∧ ∃ v, e = .returned (.tuple #[v, .int .i64 (settleN C O), .int .i64 (checkR C).2]) ∧ w'.ownsRow w.heap.size 3 1 v (settleI C O).length ((settleI C O).map (Value.int .i64)) := by
  refine (rTSettle_any w V C O h ok htn hO).mono ?_
  rintro e w' ⟨hb, v, n, rfl, hno, hyes⟩
  unfold settleI settleN
  by_cases h0 : (checkR C).2 = 0
  · rw [if_pos h0, if_pos h0]
    obtain ⟨rfl, g, rfl, hg, ht⟩ := hyes h0
    refine ⟨hb, _, rfl, ?_⟩
    have := nums_ownT ht hg (by rw [settleR_len]; have := (right_of h0).nl; unfold maxLen; omega)
    rw [settleR_len] at this ⊢
    exact this
  · rw [if_neg h0, if_neg h0]
    obtain ⟨rfl, rfl⟩ := hno h0
    exact ⟨hb, _, rfl, nil_ownI _ _⟩
theorem tResets_own (h : C.In w V) (ok : C.Ok) :
    Calls Tryz.prog 7 #[V.val C.max] w fun e w' => Below w.heap.size w w' ∧ ∃ v, e = .returned (.tuple #[v, .int .i64 (checkR C).2]) ∧ w'.ownsRow w.heap.size 3 1 v (resetI C).length ((resetI C).map (Value.int .i64)) := by
  refine (tResets_any w V C h ok).mono ?_
  rintro e w' ⟨hb, v, rfl, hno, hyes⟩
  refine ⟨hb, v, rfl, ?_⟩
  unfold resetI
  by_cases h0 : (checkR C).2 = 0
  · rw [if_pos h0]
    obtain ⟨g, rfl, hg, ht⟩ := hyes h0
    have := nums_ownT ht hg (by rw [reset3_len]; have := (right_of h0).nl; unfold maxLen; omega)
    rw [reset3_len] at this ⊢
    exact this
  · rw [if_neg h0, hno h0]; exact nil_ownI _ _
theorem rTResets_own (h : C.In w V) (ok : C.Ok) (htn : ∀ s ∈ C.comments, s.size ≤ maxLen) :
    Calls Tryz.prog 8 #[V.val C.max] w fun e w' => Below w.heap.size w w' ∧ ∃ v, e = .returned (.tuple #[v, .int .i64 (checkR C).2]) ∧ w'.ownsRow w.heap.size 3 1 v (resetI C).length ((resetI C).map (Value.int .i64)) := by
  refine (rTResets_any w V C h ok htn).mono ?_
  rintro e w' ⟨hb, v, rfl, hno, hyes⟩
  refine ⟨hb, v, rfl, ?_⟩
  unfold resetI
  by_cases h0 : (checkR C).2 = 0
  · rw [if_pos h0]
    obtain ⟨g, rfl, hg, ht⟩ := hyes h0
    have := nums_ownT ht hg (by rw [reset3_len]; have := (right_of h0).nl; unfold maxLen; omega)
    rw [reset3_len] at this ⊢
    exact this
  · rw [if_neg h0, hno h0]; exact nil_ownI _ _
end

set_option maxHeartbeats 20000000 in
set_option maxRecDepth 100000 in
theorem ternSettles_walk (w : World) (V : CV) (C : Circ) (htc : TabC w) (h : C.In w V) (ok : C.Ok) (rm : C.Room ∧ C.Reach) :
    Calls Tryz.prog 3 #[V.val C.max] w fun e w' => e = .returned (.bool true) ∧ Below w.heap.size w w' := by
  obtain ⟨rm, re⟩ := rm
  obtain ⟨O, hO⟩ := ord_ex h ok
  obtain ⟨W0, hW0⟩ : ∃ W0, W0 = (w.alloc (.cells (V.cells C.max) 29)) := ⟨_, rfl⟩
  have hb0 : Below w.heap.size w W0 := by
    rw [hW0]; exact (Below.refl w.heap.size w).alloc (Nat.le_refl _) _
  have hbx0 : Blk W0 w.heap.size 29 (V.cells C.max) := by rw [hW0]; exact Blk.new w _ _
  have HLEND := Lib.hid (LendCircuit_any W0 V C (h.below hb0) rm ⟨re.i, re.o, re.b, re.c, re.f, re.l, re.a⟩)
  have HIN0 := Lib.hid (h.below hb0)
  have HB0 := Lib.hid hb0
  have HTC0 := Lib.hid htc
  obtain ⟨Vi, Vl, Vo, Vb, Vc, Vj, Vf, Va, Vs, Vt⟩ := V
  obtain ⟨m, hmm⟩ : ∃ m, C.max = m := ⟨_, rfl⟩
  have HSET := Lib.hid (fun (wx : World) (U : CV) (ht : TabC wx) (hx : C.In wx U) => tSettle_own hx ok ht hO)
  have HRSET := Lib.hid (fun (wx : World) (U : CV) (hx : C.In wx U) => rTSettle_own hx ok re.t hO)
  have HRES := Lib.hid (fun (wx : World) (U : CV) (hx : C.In wx U) => tResets_own hx ok)
  have HRRES := Lib.hid (fun (wx : World) (U : CV) (hx : C.In wx U) => rTResets_own hx ok re.t)
  have HKEPT := Lib.hid (fun (wx : World) (B : Nat) (V U : CV) (us : List Value) (hl : LentC wx B C us V) (hx : C.In wx U) => KeptCircuit_any wx B V U C us hl hx)
  have HSAME := Lib.hid (fun (wx : World) (v u : Value) (zs : List Int) (hx : RowE 1 encI wx v zs) (hy : RowE 1 encI wx u zs) => (show Calls Tryz.prog 9 #[v, u] wx fun e w' => e = .returned (.bool true) ∧ Below wx.heap.size wx w' from by have := SameInts_any wx v u zs zs hx hy; rwa [decide_eq_true (rfl : zs = zs)] at this))
  rw [hmm] at HLEND hbx0 hW0 HKEPT HSET HRSET HRES HRRES
  rw [hmm]
  have HBX0 := Lib.hid hbx0
  generalize settleI C O = LA at *
  generalize settleN C O = nn at *
  generalize resetI C = LR at *
  generalize (checkR C).2 = fe at *
  rw [hW0] at HLEND
  have HW0 := Lib.hid hW0
  obtain ⟨c0, c1, c2, c3, c4, c5, c6, c7, c8, c9, c10⟩ := rbox_of (by rw [hW0] at hbx0; exact hbx0)
  clear h ok rm re hb0 hmm hbx0 hO htc hW0
  go_enter Tryz.func3, Tryz.ntmps3
  go_upto_region 2 with (go_at_call 4; refine HLEND.out.mono ?_; rintro e w1 ⟨U, us, rfl, hb1, hl1⟩; rw [← HW0.out] at hb1; obtain ⟨Ui, Ul, Uo, Ub, Uc, Uj, Uf, Ua, Us, Ut⟩ := U; obtain ⟨A0, n0, k0, hf0⟩ := slT_form hl1.in_.i; simp only at hf0; subst hf0; obtain ⟨A1, n1, k1, hf1⟩ := slT_form hl1.in_.l; simp only at hf1; subst hf1; obtain ⟨A2, n2, k2, hf2⟩ := slT_form hl1.in_.o; simp only at hf2; subst hf2; obtain ⟨A3, n3, k3, hf3⟩ := slT_form hl1.in_.b; simp only at hf3; subst hf3; obtain ⟨A4, n4, k4, hf4⟩ := slT_form hl1.in_.c; simp only at hf4; subst hf4; obtain ⟨A5, n5, k5, hf5⟩ := slT_formL hl1.in_.j; simp only at hf5; subst hf5; obtain ⟨A6, n6, k6, hf6⟩ := slT_form hl1.in_.f; simp only at hf6; subst hf6; obtain ⟨A7, n7, k7, hf7⟩ := slT_form hl1.in_.a; simp only at hf7; subst hf7; obtain ⟨A8, n8, k8, hf8⟩ := slT_form hl1.in_.s; simp only at hf8; subst hf8; obtain ⟨A9, n9, k9, hf9⟩ := slT_form hl1.in_.t; simp only at hf9; subst hf9; have HL1 := Lib.hid hl1; have HB1 := Lib.hid hb1; clear hb1 hl1 c0 c1 c2 c3 c4 c5 c6 c7 c8 c9 c10)
  obtain ⟨BC, HLC⟩ : ∃ B, Hid (LentC w1 B C us ⟨.slice A0 n0 k0, .slice A1 n1 k1, .slice A2 n2 k2, .slice A3 n3 k3, .slice A4 n4 k4, .slice A5 n5 k5, .slice A6 n6 k6, .slice A7 n7 k7, .slice A8 n8 k8, .slice A9 n9 k9⟩) := ⟨_, HL1⟩
  have HALL : Hid (∀ wz, Below (w1.alloc (.cells #[.int .i64 m, .slice A0 n0 k0, .slice A1 n1 k1, .slice A2 n2 k2, .slice A3 n3 k3, .slice A4 n4 k4, .slice A5 n5 k5, .slice A6 n6 k6, .slice A7 n7 k7, .slice A8 n8 k8, .slice A9 n9 k9] 29)).heap.size (w1.alloc (.cells #[.int .i64 m, .slice A0 n0 k0, .slice A1 n1 k1, .slice A2 n2 k2, .slice A3 n3 k3, .slice A4 n4 k4, .slice A5 n5 k5, .slice A6 n6 k6, .slice A7 n7 k7, .slice A8 n8 k8, .slice A9 n9 k9] 29)) wz → Blk wz w.heap.size 29 #[.int .i64 m, Vi, Vl, Vo, Vb, Vc, Vj, Vf, Va, Vs, Vt] ∧ Blk wz w1.heap.size 29 #[.int .i64 m, .slice A0 n0 k0, .slice A1 n1 k1, .slice A2 n2 k2, .slice A3 n3 k3, .slice A4 n4 k4, .slice A5 n5 k5, .slice A6 n6 k6, .slice A7 n7 k7, .slice A8 n8 k8, .slice A9 n9 k9] ∧ C.In wz ⟨Vi, Vl, Vo, Vb, Vc, Vj, Vf, Va, Vs, Vt⟩ ∧ LentC wz BC C us ⟨.slice A0 n0 k0, .slice A1 n1 k1, .slice A2 n2 k2, .slice A3 n3 k3, .slice A4 n4 k4, .slice A5 n5 k5, .slice A6 n6 k6, .slice A7 n7 k7, .slice A8 n8 k8, .slice A9 n9 k9⟩ ∧ TabC wz ∧ Below w.heap.size w wz) := Lib.hid (fun wz hb => by
    have h3 : Below w1.heap.size w1 wz := bt ((Below.refl w1.heap.size w1).alloc (Nat.le_refl _) _) (Nat.le_refl _) hb
    have h4 : Below W0.heap.size W0 wz := bt HB1.out (Nat.le_refl _) h3
    have h5 := bt HB0.out (Nat.le_refl _) h4
    exact ⟨HBX0.out.below h4 HBX0.out.lt, (Blk.new w1 _ _).below hb (by simp), HIN0.out.below h4, HLC.out.below h3, HTC0.out.below h5, h5⟩)
  have HX : Hid (Below (w1.alloc (.cells #[.int .i64 m, .slice A0 n0 k0, .slice A1 n1 k1, .slice A2 n2 k2, .slice A3 n3 k3, .slice A4 n4 k4, .slice A5 n5 k5, .slice A6 n6 k6, .slice A7 n7 k7, .slice A8 n8 k8, .slice A9 n9 k9] 29)).heap.size (w1.alloc (.cells #[.int .i64 m, .slice A0 n0 k0, .slice A1 n1 k1, .slice A2 n2 k2, .slice A3 n3 k3, .slice A4 n4 k4, .slice A5 n5 k5, .slice A6 n6 k6, .slice A7 n7 k7, .slice A8 n8 k8, .slice A9 n9 k9] 29)) (w1.alloc (.cells #[.int .i64 m, .slice A0 n0 k0, .slice A1 n1 k1, .slice A2 n2 k2, .slice A3 n3 k3, .slice A4 n4 k4, .slice A5 n5 k5, .slice A6 n6 k6, .slice A7 n7 k7, .slice A8 n8 k8, .slice A9 n9 k9] 29))) := Lib.hid (Below.refl _ _)
  clear HL1 HB1 HLEND HIN0 HB0 HBX0 HTC0 HLC HW0
  generalize hg2 : w1.heap.size = g2 at *
  generalize w1.alloc (.cells #[.int .i64 m, .slice A0 n0 k0, .slice A1 n1 k1, .slice A2 n2 k2, .slice A3 n3 k3, .slice A4 n4 k4, .slice A5 n5 k5, .slice A6 n6 k6, .slice A7 n7 k7, .slice A8 n8 k8, .slice A9 n9 k9] 29) = X at *
  clear hg2
  obtain ⟨c0, c1, c2, c3, c4, c5, c6, c7, c8, c9, c10⟩ := rbox_of (HALL.out _ HX.out).1; obtain ⟨d0, d1, d2, d3, d4, d5, d6, d7, d8, d9, d10⟩ := rbox_of (HALL.out _ HX.out).2.1
  go_upto_region 3 with (go_at_call 5; refine (HSET.out _ _ (HALL.out _ HX.out).2.2.2.2.1 (HALL.out _ HX.out).2.2.2.1.in_).mono ?_; rintro e w3 ⟨hb, v, rfl, ho⟩; obtain ⟨AHA, cHA, hve⟩ := own_slice_k ho; subst hve; have HA := Lib.hid (own_le ho HX.out.size); clear ho; have HXN := Lib.hid (bt HX.out (Nat.le_refl _) hb); clear HX hb c0 c1 c2 c3 c4 c5 c6 c7 c8 c9 c10 d0 d1 d2 d3 d4 d5 d6 d7 d8 d9 d10; have HX := HXN; clear HXN; obtain ⟨c0, c1, c2, c3, c4, c5, c6, c7, c8, c9, c10⟩ := rbox_of (HALL.out _ HX.out).1; obtain ⟨d0, d1, d2, d3, d4, d5, d6, d7, d8, d9, d10⟩ := rbox_of (HALL.out _ HX.out).2.1)
  go_upto_region 4 with (go_at_call 6; refine (HRSET.out _ _ (HALL.out _ HX.out).2.2.1).mono ?_; rintro e w4 ⟨hb, v, rfl, ho⟩; obtain ⟨AHB, cHB, hve⟩ := own_slice_k ho; subst hve; have THA := Lib.hid (own_below HA.out hb); clear HA; have HA := THA; clear THA; have HB := Lib.hid (own_le ho HX.out.size); clear ho; have HXN := Lib.hid (bt HX.out (Nat.le_refl _) hb); clear HX hb c0 c1 c2 c3 c4 c5 c6 c7 c8 c9 c10 d0 d1 d2 d3 d4 d5 d6 d7 d8 d9 d10; have HX := HXN; clear HXN; obtain ⟨c0, c1, c2, c3, c4, c5, c6, c7, c8, c9, c10⟩ := rbox_of (HALL.out _ HX.out).1; obtain ⟨d0, d1, d2, d3, d4, d5, d6, d7, d8, d9, d10⟩ := rbox_of (HALL.out _ HX.out).2.1)
  go_upto_region 5 with (go_at_call 7; refine (HRES.out _ _ (HALL.out _ HX.out).2.2.2.1.in_).mono ?_; rintro e w5 ⟨hb, v, rfl, ho⟩; obtain ⟨AHN, cHN, hve⟩ := own_slice_k ho; subst hve; have APHAHN := Lib.hid (apT_of HA.out ho); have THA := Lib.hid (own_below HA.out hb); clear HA; have HA := THA; clear THA; have THB := Lib.hid (own_below HB.out hb); clear HB; have HB := THB; clear THB; have HN := Lib.hid (own_le ho HX.out.size); clear ho; have HXN := Lib.hid (bt HX.out (Nat.le_refl _) hb); clear HX hb c0 c1 c2 c3 c4 c5 c6 c7 c8 c9 c10 d0 d1 d2 d3 d4 d5 d6 d7 d8 d9 d10; have HX := HXN; clear HXN; obtain ⟨c0, c1, c2, c3, c4, c5, c6, c7, c8, c9, c10⟩ := rbox_of (HALL.out _ HX.out).1; obtain ⟨d0, d1, d2, d3, d4, d5, d6, d7, d8, d9, d10⟩ := rbox_of (HALL.out _ HX.out).2.1)
  go_upto_region 6 with (go_at_call 8; refine (HRRES.out _ _ (HALL.out _ HX.out).2.2.1).mono ?_; rintro e w6 ⟨hb, v, rfl, ho⟩; obtain ⟨AHM, cHM, hve⟩ := own_slice_k ho; subst hve; have THA := Lib.hid (own_below HA.out hb); clear HA; have HA := THA; clear THA; have THB := Lib.hid (own_below HB.out hb); clear HB; have HB := THB; clear THB; have THN := Lib.hid (own_below HN.out hb); clear HN; have HN := THN; clear THN; have HM := Lib.hid (own_le ho HX.out.size); clear ho; have HXN := Lib.hid (bt HX.out (Nat.le_refl _) hb); clear HX hb c0 c1 c2 c3 c4 c5 c6 c7 c8 c9 c10 d0 d1 d2 d3 d4 d5 d6 d7 d8 d9 d10; have HX := HXN; clear HXN; obtain ⟨c0, c1, c2, c3, c4, c5, c6, c7, c8, c9, c10⟩ := rbox_of (HALL.out _ HX.out).1; obtain ⟨d0, d1, d2, d3, d4, d5, d6, d7, d8, d9, d10⟩ := rbox_of (HALL.out _ HX.out).2.1)
  have hq1 : (nn != nn) = false := by simp
  have hq2 : (fe != fe) = false := by simp
  go_upto_region 8 with (first
    | (go_at_call_of 9 AHA; refine (HSAME.out _ _ _ LA (own_rowI HA.out) (own_rowI HB.out)).mono ?_; rintro e w7 ⟨rfl, hb⟩; have THA := Lib.hid (own_below HA.out hb); clear HA; have HA := THA; clear THA; have THB := Lib.hid (own_below HB.out hb); clear HB; have HB := THB; clear THB; have THN := Lib.hid (own_below HN.out hb); clear HN; have HN := THN; clear THN; have THM := Lib.hid (own_below HM.out hb); clear HM; have HM := THM; clear THM; have HXN := Lib.hid (bt HX.out (Nat.le_refl _) hb); clear HX hb c0 c1 c2 c3 c4 c5 c6 c7 c8 c9 c10 d0 d1 d2 d3 d4 d5 d6 d7 d8 d9 d10; have HX := HXN; clear HXN; obtain ⟨c0, c1, c2, c3, c4, c5, c6, c7, c8, c9, c10⟩ := rbox_of (HALL.out _ HX.out).1; obtain ⟨d0, d1, d2, d3, d4, d5, d6, d7, d8, d9, d10⟩ := rbox_of (HALL.out _ HX.out).2.1)
    | (go_at_call_of 9 AHN; refine (HSAME.out _ _ _ LR (own_rowI HN.out) (own_rowI HM.out)).mono ?_; rintro e w8 ⟨rfl, hb⟩; have THA := Lib.hid (own_below HA.out hb); clear HA; have HA := THA; clear THA; have THB := Lib.hid (own_below HB.out hb); clear HB; have HB := THB; clear THB; have THN := Lib.hid (own_below HN.out hb); clear HN; have HN := THN; clear THN; have THM := Lib.hid (own_below HM.out hb); clear HM; have HM := THM; clear THM; have HXN := Lib.hid (bt HX.out (Nat.le_refl _) hb); clear HX hb c0 c1 c2 c3 c4 c5 c6 c7 c8 c9 c10 d0 d1 d2 d3 d4 d5 d6 d7 d8 d9 d10; have HX := HXN; clear HXN; obtain ⟨c0, c1, c2, c3, c4, c5, c6, c7, c8, c9, c10⟩ := rbox_of (HALL.out _ HX.out).1; obtain ⟨d0, d1, d2, d3, d4, d5, d6, d7, d8, d9, d10⟩ := rbox_of (HALL.out _ HX.out).2.1))
  go_upto_region 9 with (go_at_call 10; refine (SpoilInts_any _ _ _ _ _ _ HA.out).mono ?_; rintro e w9 ⟨rfl, hgr⟩; have THN := Lib.hid (own_spoilT HN.out (APHAHN.out) hgr); clear HN; have HN := THN; clear THN; have HXN := Lib.hid (HX.out.grown hgr HX.out.size (fun k hk => (HA.out.lt k hk).1)); clear HX hgr c0 c1 c2 c3 c4 c5 c6 c7 c8 c9 c10 d0 d1 d2 d3 d4 d5 d6 d7 d8 d9 d10; have HX := HXN; clear HXN; obtain ⟨c0, c1, c2, c3, c4, c5, c6, c7, c8, c9, c10⟩ := rbox_of (HALL.out _ HX.out).1; obtain ⟨d0, d1, d2, d3, d4, d5, d6, d7, d8, d9, d10⟩ := rbox_of (HALL.out _ HX.out).2.1)
  go_upto_region 10 with (go_at_call 10; refine (SpoilInts_any _ _ _ _ _ _ HN.out).mono ?_; rintro e w10 ⟨rfl, hgr⟩; have HXN := Lib.hid (HX.out.grown hgr HX.out.size (fun k hk => (HN.out.lt k hk).1)); clear HX hgr c0 c1 c2 c3 c4 c5 c6 c7 c8 c9 c10 d0 d1 d2 d3 d4 d5 d6 d7 d8 d9 d10; have HX := HXN; clear HXN; obtain ⟨c0, c1, c2, c3, c4, c5, c6, c7, c8, c9, c10⟩ := rbox_of (HALL.out _ HX.out).1; obtain ⟨d0, d1, d2, d3, d4, d5, d6, d7, d8, d9, d10⟩ := rbox_of (HALL.out _ HX.out).2.1)
  go_wp2_with (first
    | (go_at_call 11; refine (HKEPT.out _ _ _ _ _ (HALL.out _ HX.out).2.2.2.1 (HALL.out _ HX.out).2.2.1).mono ?_; rintro e w11 ⟨rfl, hb⟩; have HXN := Lib.hid (bt HX.out (Nat.le_refl _) hb); clear HX hb c0 c1 c2 c3 c4 c5 c6 c7 c8 c9 c10 d0 d1 d2 d3 d4 d5 d6 d7 d8 d9 d10; have HX := HXN; clear HXN; obtain ⟨c0, c1, c2, c3, c4, c5, c6, c7, c8, c9, c10⟩ := rbox_of (HALL.out _ HX.out).1; obtain ⟨d0, d1, d2, d3, d4, d5, d6, d7, d8, d9, d10⟩ := rbox_of (HALL.out _ HX.out).2.1)
    | (go_at_call 12; refine (worksT_any _ (HALL.out _ HX.out).2.2.2.2.1).mono ?_; rintro e w12 ⟨rfl, hb⟩; have HXN := Lib.hid (bt HX.out (Nat.le_refl _) hb); clear HX hb c0 c1 c2 c3 c4 c5 c6 c7 c8 c9 c10 d0 d1 d2 d3 d4 d5 d6 d7 d8 d9 d10; have HX := HXN; clear HXN; obtain ⟨c0, c1, c2, c3, c4, c5, c6, c7, c8, c9, c10⟩ := rbox_of (HALL.out _ HX.out).1; obtain ⟨d0, d1, d2, d3, d4, d5, d6, d7, d8, d9, d10⟩ := rbox_of (HALL.out _ HX.out).2.1))
  go_ret
  exact ⟨rfl, (HALL.out _ HX.out).2.2.2.2.2⟩
end Go.Proofs.YtbeaicmjohlboaaGreatDoor

namespace Go.Proofs.YtbeaicmjohlboaaGreatDoor
open Go.ChangeShapes Go.WideShapes Go.ChangeAt Go.RowKit

set_option maxRecDepth 100000 in
theorem ternSettles_lifted (os : Os) (started : os.Started) (H : Type) (enc : TypeId × Value → H) :
    ReturnsInHanded {} Tryz.checked os 3 .any (fun w args => (Rows.ternSettlesSpec.pre enc Tryz.prog Tryz.f3 [] false w args ∧ laidMetH Tryz.prog laidT w) ∧ sizedMet enc Tryz.prog Tryz.f3 (OpenSpec.ofChange Rows.ternSettlesSpec) false w args)
      (Rows.ternSettlesSpec.post enc Tryz.prog Tryz.f3 false true false false) := by
  refine returnsInHanded_of_change_and (C := Tryz.checked) (X := fun w _ => laidMetH Tryz.prog laidT w) (fun _ _ _ hh h => h.of_heap hh) ownNone started (by kernel_rfl) Tryz.func3
    (ChangeSpec.witness_shaped (enc := enc) (C := Tryz.checked) (os := os) (X := fun w _ => laidMetH Tryz.prog laidT w) false (World.doorLaid Tryz.prog 400 os) #[.agg #[.int .i64 0, .slice none 0 0, .slice none 0 0, .slice none 0 0, .slice none 0 0, .slice none 0 0, .slice none 0 0, .slice none 0 0, .slice none 0 0, .slice none 0 0, .slice none 0 0]] 8 rfl (World.shaped_of_RefB (by kernel_rfl) (by kernel_rfl)) (by kernel_rfl) (by kernel_rfl) (by kernel_rfl) (door_metT os _)) ?_
  intro W base args ds gs before hval0 hW _ hsz0 hL _
  have hsz : (DataW.weightsEach Tryz.prog (Tryz.f3.params.toList ++ Rows.ternSettlesSpec.plain.varTypes Tryz.prog) (ds ++ gs)).all (· ≤ reachBytes) = true := hsz0
  have hval : ∀ (j : Nat) t v, Tryz.f3.params[j]? = some t → args[j]? = some v → Value.okWide Tryz.prog W .any base t v := hval0
  have hW' := hW
  obtain ⟨p, q, hA0, hV, rfl, hfz, hnd⟩ := hW
  have hA : DataW.TrodAll enc Tryz.prog W 0 (fun _ => true) true Tryz.f3.params.toList args.toList ds p := hA0
  have hA1 := hA
  rw [Tryz.params3] at hA hval hsz
  obtain ⟨v0, vs0, d0, ds0, p0, q0, hargs, rfl, rfl, h0, r0⟩ := trodAll_cons hA
  obtain ⟨rfl, rfl, rfl⟩ := trodAll_nil r0
  obtain rfl : args = #[v0] := by cases args; simp_all
  simp only [List.append_nil] at hA1 hW' hsz
  obtain ⟨rfl, rfl⟩ := trodVars_none hV
  clear hA0 hval0 hsz0
  try simp only [List.append_nil] at hW'
  have hlt : ∀ x ∈ p0, x.block < W.heap.size := fun x hx => hW'.lt x (by simpa using hx)
  obtain ⟨V0, C0, rfl, hin0, hok0, hrm0⟩ := arg_circR (hval 0 29 v0 rfl rfl) h0 (fun x hx => hlt x (by simp [hx])) (each_all hsz (j := 0) rfl rfl)
  refine (ternSettles_walk W V0 C0 (tab_laidT hL) hin0 hok0 hrm0).mono fun e W' ⟨he, hbw⟩ => ?_
  subst he
  exact ⟨_, rfl, law_post rfl (by rw [Tryz.params3]; exact of_decide_eq_true (by kernel_rfl)) rfl hW' hA1 hlt rfl rfl rfl hbw⟩

theorem ternSettles_row : Rows.TernSettlesSaid :=
  OpenClaim.holds_of_wide 3 Tryz.f3 rfl rfl rfl rfl rfl rfl rfl ⟨rfl, rfl, rfl, rfl, rfl⟩ rfl rfl rfl rfl rfl (by kernel_rfl) Tryz.func3 (by kernel_rfl)
    (of_decide_eq_true (by kernel_rfl)) (by unfold Func.isWrapper; first | (rw [if_pos (by decide +kernel)]; kernel_rfl) | (rw [if_neg (by decide +kernel)]; exact ⟨rfl, rfl⟩))
    (fun os started H enc _ => ternSettles_lifted os started H enc)

/-- TernSettles: for every circuit the statement's Go function returns true and leaves its argument as it was. No condition. -/
theorem ternSettles_card : Rows.TernSettlesCardSaid :=
  Claim7.holds_tied_plain_at .later [] [.data, .data] true Rows.ternSettlesCard.stood.harness true
    ternSettles_row (fun _ h => by cases h) (by kernel_rfl) (fun _ h => by cases h) ternSettles_row_tie rfl ⟨rfl, rfl⟩ (by kernel_rfl) rfl
    (fun f fn hf hfn => by
      obtain rfl : f = 3 := Option.some.inj ((show Tryz.prog.funcNamed "trestle/trestlelaw08.TernSettles" = some 3 by kernel_rfl).symm.trans hf) |>.symm
      obtain rfl : fn = Tryz.f3 := (Option.some.inj (Tryz.func3.symm.trans hfn)).symm
      exact ⟨by kernel_rfl, fun j t ht => by
        rw [Tryz.params3] at ht
        have hm : t ∈ [29] := by simpa using Array.mem_of_getElem? ht
        have hall : ([29].all fun u => !Tryz.prog.wantsStandIn u) = true := by kernel_rfl
        exact (show Tryz.prog.wantsStandIn t = false by simpa using List.all_eq_true.1 hall t hm)⟩)
    (by kernel_rfl)
#print axioms ternSettles_card
end Go.Proofs.YtbeaicmjohlboaaGreatDoor

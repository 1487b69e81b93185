/- The walk of TernReaches: for whatever circuit and trace the statement's Go function answers true, and nothing that was there has turned. -/
import Derived.Test.YtbeaicmjohlboaaDoorTrnW
import Derived.Test.YtbeaicmjohlboaaDoorSimG
import Derived.Test.YtbeaicmjohlboaaDoorArgS
namespace Go.Proofs.YtbeaicmjohlboaaDoor
open Go.RowKit

theorem trioR_of {w : World} {g : Nat} {t : TypeId} {a b c : Value} (h : Blk w g t #[a, b, c]) : w.cell? ⟨g, 0, none⟩ = some a ∧ w.cell? ⟨g, 1, none⟩ = some b ∧ w.cell? ⟨g, 2, none⟩ = some c := ⟨by rw [h.cell]; rfl, by rw [h.cell]; rfl, by rw [h.cell]; rfl⟩
section
variable {C : Circ} {O : List Int}
/-- What settles. -/
theorem settleR_fix : stepS C O (settleR C O).1 = (settleR C O).1 ∧ (settleR C O).1.length = C.latches.length ∧ ∀ k, Le3 ((reset3 C).getD k 0) ((settleR C O).1.getD k 0) := by
  obtain ⟨L', n', e1, e2, e3, e4⟩ := settle3_fix (C := C) (O := O) (C.latches.length + 1) (reset3 C) 0 (reset3_len C) (by have := List.length_filter_le (fun x => decide (x ≠ (2 : Int))) (reset3 C); rw [reset3_len] at this; omega)
  unfold settleR
  rw [e1]
  exact ⟨e2, by rw [e3, reset3_len], e4⟩
/-- A state in which the circuit may begin is covered by what settles. -/
theorem settled_init {st : List Bool} (hl : st.length = C.latches.length) (hs : startsF C st = true) (hz : ∀ z ∈ C.latches, z.2.2 = 0 ∨ z.2.2 = 1 ∨ z.2.2 = z.1) : Cov3 (settleR C O).1 st := by
  obtain ⟨_, h2, h3⟩ := settleR_fix (C := C) (O := O)
  refine ⟨by rw [h2, hl], fun k hk => ?_⟩
  rw [h2] at hk
  obtain ⟨z, hzk⟩ : ∃ z, C.latches[k]? = some z := ⟨_, List.getElem?_eq_getElem hk⟩
  obtain ⟨b, hb⟩ : ∃ b, st[k]? = some b := ⟨_, List.getElem?_eq_getElem (by rw [hl]; exact hk)⟩
  have hp : (decide (z.2.2 = z.1) || (b == decide (z.2.2 = 1))) = true := (List.all_eq_true.1 hs) (z, b) (List.mem_of_getElem? (i := k) (by rw [List.getElem?_zip_eq_some]; exact ⟨hzk, hb⟩))
  have hr : (reset3 C).getD k 0 = if z.2.2 = z.1 then 2 else z.2.2 := by rw [List.getD_eq_getElem?_getD, reset3_at hzk]; rfl
  have h4 := h3 k
  rw [hr] at h4
  rw [show st.getD k false = b by rw [List.getD_eq_getElem?_getD, hb]; rfl]
  by_cases e : z.2.2 = z.1
  · rw [if_pos e] at h4
    rcases h4 with h4 | h4
    · exact .inr h4.symm
    · exact .inr h4
  · rw [if_neg e] at h4
    have hb1 : b = decide (z.2.2 = 1) := by simpa [e] using hp
    have : b2i b = z.2.2 := by
      subst hb1
      rcases hz z (List.mem_of_getElem? hzk) with h | h | h
      · rw [h]; rfl
      · rw [h]; rfl
      · exact absurd h e
    rw [this]
    exact h4
/-- Each state of a run is covered by what settles. -/
theorem settled_run (h0 : (checkR C).2 = 0) (hO : IsOrd C O) : ∀ (rows : List (List Bool)) (st : List Bool), (∀ r ∈ rows, r.length = C.inputs.length) → Cov3 (settleR C O).1 st → ∀ m ∈ momsG C O st rows, Cov3 (settleR C O).1 m.st
  | [], _, _, _, m, hm => absurd hm (by simp [momsG])
  | r :: rest, st, hr, hc, m, hm => by
    obtain ⟨hfix, hlen, _⟩ := settleR_fix (C := C) (O := O)
    have hsl : st.length = C.latches.length := by rw [← hc.1, hlen]
    have hrl := hr r (by simp)
    have hm2 : m ∈ momOf C st (valF C O st r) :: momsG C O (nextF C (valF C O st r)) rest := hm
    rcases List.mem_cons.1 hm2 with e | e
    · subst e; exact hc
    · exact settled_run h0 hO rest _ (fun x hx => hr x (by simp [hx])) (settled_next h0 hO (valOk h0 hO hsl hrl) hlen hrl hc hfix) m e
end

set_option maxHeartbeats 20000000 in
set_option maxRecDepth 100000 in
theorem ternReaches_walk (w : World) (V : CV) (C : Circ) (U : TV) (t : Tr) (htc : TabC w) (h : C.In w V) (ok : C.Ok) (rm : C.Room ∧ C.Reach) (ht : t.In w U) (_htr : t.Reach) :
    Calls Tryd.prog 7 #[V.val C.max, U.val t.loop] w fun e w' => e = .returned (.bool true) ∧ Below w.heap.size w w' := by
  obtain ⟨O, hO⟩ := ord_ex h ok
  obtain ⟨Ui, Ur⟩ := U
  have HSET := Lib.hid (fun (wx : World) (hb : Below w.heap.size w wx) => tSettle_any wx V C O (h.below hb) ok (htc.below hb) hO)
  have HSTA := Lib.hid (fun (wx : World) (hb : Below w.heap.size w wx) => Starts_any wx V C Ui t.init (h.below hb) ok (ht.i.below hb))
  have HRUN := Lib.hid (fun (wx : World) (hb : Below w.heap.size w wx) => Run_any wx V C ⟨Ui, Ur⟩ t O (h.below hb) ok rm.1 (ht.below hb) hO)
  have HTC := Lib.hid htc
  obtain ⟨AL, cL, eL, _, _, _⟩ := h.l
  obtain ⟨AI, nI, cI, eI⟩ := slO_form ht.i
  obtain ⟨Vi, Vl, Vo, Vb, Vc, Vj, Vf, Va, Vs, Vt⟩ := V
  simp only at eL eI
  subst eL eI
  obtain ⟨m, hmm⟩ : ∃ m, C.max = m := ⟨_, rfl⟩
  obtain ⟨lp, hlp⟩ : ∃ l, t.loop = l := ⟨_, rfl⟩
  obtain ⟨nL, hnL⟩ : ∃ n, C.latches.length = n := ⟨_, rfl⟩
  obtain ⟨nT, hnT⟩ : ∃ n, t.rows.length = n := ⟨_, rfl⟩
  rw [hmm, hnL] at HSET HSTA
  rw [hmm, hnL, hlp, hnT] at HRUN
  rw [hmm, hnL, hlp]
  have HALL : Hid (∀ wz, Below ((w.alloc (.cells #[.int .i64 m, Vi, .slice AL nL cL, Vo, Vb, Vc, Vj, Vf, Va, Vs, Vt] 29)).alloc (.cells #[.slice AI nI cI, Ur, .int .i64 lp] 61)).heap.size ((w.alloc (.cells #[.int .i64 m, Vi, .slice AL nL cL, Vo, Vb, Vc, Vj, Vf, Va, Vs, Vt] 29)).alloc (.cells #[.slice AI nI cI, Ur, .int .i64 lp] 61)) wz → Blk wz w.heap.size 29 #[.int .i64 m, Vi, .slice AL nL cL, Vo, Vb, Vc, Vj, Vf, Va, Vs, Vt] ∧ Blk wz (w.heap.size + 1) 61 #[.slice AI nI cI, Ur, .int .i64 lp] ∧ Below w.heap.size w wz) := Lib.hid (fun wz hb => by
    have h2 : Blk ((w.alloc (.cells #[.int .i64 m, Vi, .slice AL nL cL, Vo, Vb, Vc, Vj, Vf, Va, Vs, Vt] 29)).alloc (.cells #[.slice AI nI cI, Ur, .int .i64 lp] 61)) (w.heap.size + 1) 61 #[.slice AI nI cI, Ur, .int .i64 lp] := by
      have := Blk.new (w.alloc (.cells #[.int .i64 m, Vi, .slice AL nL cL, Vo, Vb, Vc, Vj, Vf, Va, Vs, Vt] 29)) 61 #[.slice AI nI cI, Ur, .int .i64 lp]
      rw [show (w.alloc (.cells #[.int .i64 m, Vi, .slice AL nL cL, Vo, Vb, Vc, Vj, Vf, Va, Vs, Vt] 29)).heap.size = w.heap.size + 1 by simp] at this
      exact this
    exact ⟨((Blk.new w _ _).alloc _).below hb (by simp; omega), h2.below hb (by simp), (((Below.refl w.heap.size w).alloc (Nat.le_refl _) _).alloc (by simp) _).trans (hb.mono (by simp; omega))⟩)
  have HX : Hid (Below ((w.alloc (.cells #[.int .i64 m, Vi, .slice AL nL cL, Vo, Vb, Vc, Vj, Vf, Va, Vs, Vt] 29)).alloc (.cells #[.slice AI nI cI, Ur, .int .i64 lp] 61)).heap.size ((w.alloc (.cells #[.int .i64 m, Vi, .slice AL nL cL, Vo, Vb, Vc, Vj, Vf, Va, Vs, Vt] 29)).alloc (.cells #[.slice AI nI cI, Ur, .int .i64 lp] 61)) ((w.alloc (.cells #[.int .i64 m, Vi, .slice AL nL cL, Vo, Vb, Vc, Vj, Vf, Va, Vs, Vt] 29)).alloc (.cells #[.slice AI nI cI, Ur, .int .i64 lp] 61))) := Lib.hid (Below.refl _ _)
  have HNT := Lib.hid hnT
  have HNL := Lib.hid hnL
  have HO := Lib.hid hO
  clear h ok rm hmm hnL hnT hlp hO ht htc
  obtain ⟨c0, c1, c2, c3, c4, c5, c6, c7, c8, c9, c10⟩ := rbox_of (HALL.out _ HX.out).1; obtain ⟨x0, x1, x2⟩ := trioR_of (HALL.out _ HX.out).2.1
  by_cases h0 : (checkR C).2 = 0
  · have HCK := Lib.hid h0
    have hnl := (right_of h0).nl
    rw [HNL.out] at hnl
    rw [h0] at HSET
    obtain ⟨L3, hL3⟩ : ∃ L, (settleR C O).1 = L := ⟨_, rfl⟩
    rw [hL3] at HSET
    obtain ⟨N3, hN3⟩ : ∃ N : Int, ((settleR C O).2 : Int) = N := ⟨_, rfl⟩
    rw [hN3] at HSET
    have HLL : Hid (L3.length = nL) := Lib.hid (by rw [← hL3, settleR_len, HNL.out])
    have HL3 := Lib.hid hL3
    obtain ⟨sb, hsb⟩ : ∃ b, startB C t.init = b := ⟨_, rfl⟩
    obtain ⟨se, hse⟩ : ∃ b, startE C t.init = b := ⟨_, rfl⟩
    obtain ⟨re, hre⟩ : ∃ b, runE C t = b := ⟨_, rfl⟩
    rw [hsb, hse] at HSTA
    rw [hre] at HRUN
    have HSB := Lib.hid hsb
    have HRE := Lib.hid hre
    clear h0 hL3 hN3 hsb hre
    go_enter Tryd.func7, Tryd.ntmps7
    go_upto_region 3 with (go_at_call 19; refine (worksT_any _ (HTC.out.below (HALL.out _ HX.out).2.2)).mono ?_; rintro e w1 ⟨rfl, hb⟩; have HXN := Lib.hid (bt HX.out (Nat.le_refl _) hb); clear HX hb c0 c1 c2 c3 c4 c5 c6 c7 c8 c9 c10 x0 x1 x2; have HX := HXN; clear HXN; obtain ⟨c0, c1, c2, c3, c4, c5, c6, c7, c8, c9, c10⟩ := rbox_of (HALL.out _ HX.out).1; obtain ⟨x0, x1, x2⟩ := trioR_of (HALL.out _ HX.out).2.1)
    go_upto_region 6 with (go_at_call 29; refine (HSET.out _ (HALL.out _ HX.out).2.2).mono ?_; rintro e w2 ⟨hb, v1, n1, rfl, _, hyes⟩; obtain ⟨hn, g1, rfl, hg1, ht1⟩ := hyes (by first | rfl | trivial); have HT1 := Lib.hid ht1; clear hyes hn hg1 ht1; have HXN := Lib.hid (bt HX.out (Nat.le_refl _) hb); clear HX hb c0 c1 c2 c3 c4 c5 c6 c7 c8 c9 c10 x0 x1 x2; have HX := HXN; clear HXN; obtain ⟨c0, c1, c2, c3, c4, c5, c6, c7, c8, c9, c10⟩ := rbox_of (HALL.out _ HX.out).1; obtain ⟨x0, x1, x2⟩ := trioR_of (HALL.out _ HX.out).2.1)
    go_upto_region 7 with (go_at_call 30; refine (HSTA.out _ (HALL.out _ HX.out).2.2).mono ?_; rintro e w3 ⟨rfl, hb⟩; have HT2 := Lib.hid (Blk.below HT1.out hb (Blk.lt HT1.out)); clear HT1; have HT1 := HT2; clear HT2; have HXN := Lib.hid (bt HX.out (Nat.le_refl _) hb); clear HX hb c0 c1 c2 c3 c4 c5 c6 c7 c8 c9 c10 x0 x1 x2; have HX := HXN; clear HXN; obtain ⟨c0, c1, c2, c3, c4, c5, c6, c7, c8, c9, c10⟩ := rbox_of (HALL.out _ HX.out).1; obtain ⟨x0, x1, x2⟩ := trioR_of (HALL.out _ HX.out).2.1)
    by_cases hr0 : re = 0
    · subst hr0
      obtain ⟨_, hfit⟩ := runE_ok HRE.out
      have hmoms : ∀ ms, momsG C O t.init t.rows = ms → ms.length = nT := fun ms e => by rw [← e, momsG_len, HNT.out]
      obtain ⟨ms, hms⟩ : ∃ ms, momsG C O t.init t.rows = ms := ⟨_, rfl⟩
      rw [hms] at HRUN
      have HML : Hid (ms.length = nT) := Lib.hid (hmoms ms hms)
      have HMS := Lib.hid hms
      have HFIT := Lib.hid hfit
      clear hmoms hms hfit
      go_upto_region 8 with (go_at_call 31; refine (HRUN.out _ (HALL.out _ HX.out).2.2).mono ?_; rintro e w4 ⟨hb, v2, rfl, _, hyes⟩; obtain ⟨gm, xs, rfl, hgm, hmb, hmo⟩ := hyes (by first | rfl | trivial); have HT2 := Lib.hid (Blk.below HT1.out hb (Blk.lt HT1.out)); clear HT1; have HT1 := HT2; clear HT2; have HMB := Lib.hid hmb; have HMO := Lib.hid (And.intro hgm hmo); clear hyes hgm hmb hmo; have HXN := Lib.hid (bt HX.out (Nat.le_refl _) hb); clear HX hb c0 c1 c2 c3 c4 c5 c6 c7 c8 c9 c10 x0 x1 x2; have HX := HXN; clear HXN; obtain ⟨c0, c1, c2, c3, c4, c5, c6, c7, c8, c9, c10⟩ := rbox_of (HALL.out _ HX.out).1; obtain ⟨x0, x1, x2⟩ := trioR_of (HALL.out _ HX.out).2.1)
      have HALL2 : Hid (∀ wz, Below w4.heap.size w4 wz → Nums wz g1 L3 ∧ MomB wz gm nT xs ∧ Moms wz w3.heap.size xs ms ∧ Below w.heap.size w wz) := Lib.hid (fun wz hb => ⟨Blk.below HT1.out hb (Blk.lt HT1.out), HMB.out.below hb HMB.out.lt, HMO.out.2.below hb, (HALL.out _ (bt HX.out (Nat.le_refl _) hb)).2.2⟩)
      cases sb
      · by_cases hs0 : se = 0
        · subst hs0
          go_wp2
          go_ret
          first | exact ⟨rfl, (HALL.out _ HX.out).2.2⟩ | exact ⟨by simp, (HALL.out _ HX.out).2.2⟩
        · have hq : (se != 0) = true := by simpa using hs0
          go_wp2
          go_ret
          first | exact ⟨rfl, (HALL.out _ HX.out).2.2⟩ | exact ⟨by simp, (HALL.out _ HX.out).2.2⟩
      · have hst := HSB.out
        unfold startB at hst
        rw [hse, Bool.and_eq_true] at hst
        have hs0 : se = 0 := by simpa using hst.1
        subst hs0
        have hinit : t.init.length = C.latches.length := by
          have h9 := HFIT.out
          unfold fitsB at h9
          simp only [Bool.and_eq_true, decide_eq_true_eq] at h9
          exact h9.1
        have hrows : ∀ r ∈ t.rows, r.length = C.inputs.length := (fits_of HFIT.out).r
        have HCOV : Hid (∀ m ∈ ms, Cov3 L3 m.st) := Lib.hid (by
          rw [← HMS.out, ← HL3.out]
          exact settled_run HCK.out (HO.out HCK.out) t.rows t.init hrows (settled_init hinit hst.2 (fun z hz => ((right_of HCK.out).l z hz).2.2)))
        have hnT : nT ≤ 512 := by rw [← HNT.out]; exact (fits_of HFIT.out).n2
        have HB0 : Hid (Below w4.heap.size w4 w4) := Lib.hid (Below.refl _ _)
        clear hst hinit hrows hse
        go_wp2
        go_loopg [59] nT (fun j iv wx => ∃ q : Nat, q ≤ nT ∧ j = nT - q ∧ iv = .int .i64 q ∧ Below w4.heap.size w4 wx)
        case atStart => exact ⟨0, Nat.zero_le _, rfl, rfl, HB0.out⟩
        case round =>
          obtain ⟨q, hq, hgk, rfl, hbw⟩ := hrel
          subst hgk
          clear HB0
          have HBW := Lib.hid hbw
          by_cases hlt : q < nT
          · obtain ⟨h1, h2, h3, h4⟩ := HALL2.out _ hbw
            obtain ⟨mo, hmo⟩ : ∃ x, ms[q]? = some x := ⟨_, List.getElem?_eq_getElem (by rw [HML.out]; exact hlt)⟩
            obtain ⟨x, hx⟩ : ∃ x, xs[q]? = some x := ⟨_, List.getElem?_eq_getElem (by rw [h3.len, HML.out]; exact hlt)⟩
            have hmr := h3.at_ q x mo hx hmo
            obtain ⟨p0, p1, p2, p3⟩ := h2.cells hx
            have hcv := HCOV.out mo (List.mem_of_getElem? hmo)
            have hrow : RowE 1 encO wr x.s mo.st := own_rowe lenO (by rw [flat_bools]; exact hmr.s)
            obtain ⟨x0v, xh, xb, xf⟩ := x
            obtain ⟨bA, bn, bc, hxb⟩ : ∃ A n c, xb = .slice A n c := by obtain ⟨A, c, e⟩ := own_slice_k hmr.b; exact ⟨A, _, c, e⟩
            obtain ⟨fA, fn, fc, hxf⟩ : ∃ A n c, xf = .slice A n c := by obtain ⟨A, c, e⟩ := own_slice_k hmr.f; exact ⟨A, _, c, e⟩
            subst hxb hxf
            simp only at p0 p1 p2 p3 hrow
            obtain ⟨sA, sc, e, _, _, hsr⟩ := hrow
            subst e
            have hsl : mo.st.length = nL := by rw [← hcv.1]; exact HLL.out
            rw [hsl] at p0
            have HSR := Lib.hid hsr
            have HCV := Lib.hid hcv
            have HSL := Lib.hid hsl
            obtain ⟨W5, hW5⟩ : ∃ W5, (wr.alloc (.cells #[.slice sA nL sc, .bool xh, .slice bA bn bc, .slice fA fn fc] 71)) = W5 := ⟨_, rfl⟩
            have hb5 : Below wr.heap.size wr W5 := by rw [← hW5]; exact (Below.refl _ _).alloc (Nat.le_refl _) _
            have HK5 : Hid (Blk W5 wr.heap.size 71 #[.slice sA nL sc, .bool xh, .slice bA bn bc, .slice fA fn fc]) := Lib.hid (by rw [← hW5]; exact Blk.new wr _ _)
            have HB5 := Lib.hid hb5
            have HB6 : Hid (Below W5.heap.size W5 W5) := Lib.hid (Below.refl _ _)
            have HW5 := Lib.hid hW5
            have hqi : (q : Int) < (nT : Int) := by omega
            have hqi0 : (0 : Int) ≤ (q : Int) := by omega
            clear h1 h2 h3 h4 hmo hx hmr hcv hsr hb5 hW5 hsl hbw
            go_upto_region 13 with (fail)
            rw [HW5.out]
            obtain ⟨gw, hgw⟩ : ∃ g, wr.heap.size = g := ⟨_, rfl⟩
            rw [hgw] at HK5 ⊢
            have HGW := Lib.hid hgw
            clear hgw
            go_wp2
            go_loopg [65] nL (fun j iv wx => ∃ k : Nat, k ≤ nL ∧ j = nL - k ∧ iv = .int .i64 k ∧ Below W5.heap.size W5 wx)
            case atStart => exact ⟨0, Nat.zero_le _, rfl, rfl, HB6.out⟩
            case round =>
              obtain ⟨k, hk, hgk, rfl, hbx⟩ := hrel
              subst hgk
              clear HB6
              have HBX := Lib.hid hbx
              by_cases hlk : k < nL
              · have hall : Below w4.heap.size w4 wr := bt HBW.out (Nat.le_refl _) (bt HB5.out (Nat.le_refl _) hbx)
                obtain ⟨h1, _, _, _⟩ := HALL2.out _ hall
                obtain ⟨b, hb⟩ : ∃ b, mo.st[k]? = some b := ⟨_, List.getElem?_eq_getElem (by rw [HSL.out]; exact hlk)⟩
                obtain ⟨y, hy⟩ : ∃ y, L3[k]? = some y := ⟨_, List.getElem?_eq_getElem (by rw [HLL.out]; exact hlk)⟩
                have hle := HCV.out.2 k (by rw [HLL.out]; exact hlk)
                rw [show mo.st.getD k false = b by rw [List.getD_eq_getElem?_getD, hb]; rfl, show L3.getD k 0 = y by rw [List.getD_eq_getElem?_getD, hy]; rfl] at hle
                have y0 := Nums.cell h1 hy
                have z0 := (HK5.out.below hbx HK5.out.lt).cell 0
                simp only [List.getElem?_toArray, List.getElem?_cons_zero] at z0
                obtain ⟨sb, soff, e, hsb, hsc⟩ := HSR.out k b hb
                subst e
                have s0 := ((bt HB5.out (Nat.le_refl _) hbx).cell (p := ⟨sb, soff + (k * 1 + 0), none⟩) hsb).trans (hsc 0 _ rfl)
                simp only [Nat.mul_one, Nat.add_zero] at s0
                have hki : (k : Int) < (nL : Int) := by omega
                have hki0 : (0 : Int) ≤ (k : Int) := by omega
                have HDR := Lib.hid hbx.drew
                clear h1 hb hy hsc hall hbx
                go_upto_region 16 with (fail)
                rcases hle with e | e
                · cases b
                  · have e2 : y = 0 := e.symm
                    clear e
                    subst e2
                    go_region
                    go_wp2
                    go_roundg (nL - (k + 1))
                    case measure => omega
                    case rel => exact ⟨k + 1, by omega, rfl, by go_num, HDR.out⟩
                  · have e2 : y = 1 := e.symm
                    clear e
                    subst e2
                    go_region
                    go_wp2
                    go_roundg (nL - (k + 1))
                    case measure => omega
                    case rel => exact ⟨k + 1, by omega, rfl, by go_num, HDR.out⟩
                · subst e
                  go_region
                  go_wp2
                  go_roundg (nL - (k + 1))
                  case measure => omega
                  case rel => exact ⟨k + 1, by omega, rfl, by go_num, HDR.out⟩
              · have hki : ¬ (k : Int) < (nL : Int) := by omega
                go_wp2
                go_roundg (nT - (q + 1))
                case measure => omega
                case rel => exact ⟨q + 1, by omega, rfl, by go_num, bt HBW.out (Nat.le_refl _) (bt HB5.out (Nat.le_refl _) HBX.out)⟩
          · have hqi : ¬ (q : Int) < (nT : Int) := by omega
            go_wp2
            go_ret
            exact ⟨rfl, (HALL2.out _ HBW.out).2.2.2⟩
    · have hq : (re != 0) = true := by simpa using hr0
      have HR0 := Lib.hid hr0
      clear hr0
      go_upto_region 8 with (go_at_call 31; refine (HRUN.out _ (HALL.out _ HX.out).2.2).mono ?_; rintro e w4 ⟨hb, v2, rfl, hno, _⟩; obtain rfl := hno HR0.out; clear hno; have HXN := Lib.hid (bt HX.out (Nat.le_refl _) hb); clear HX hb c0 c1 c2 c3 c4 c5 c6 c7 c8 c9 c10 x0 x1 x2; have HX := HXN; clear HXN; obtain ⟨c0, c1, c2, c3, c4, c5, c6, c7, c8, c9, c10⟩ := rbox_of (HALL.out _ HX.out).1; obtain ⟨x0, x1, x2⟩ := trioR_of (HALL.out _ HX.out).2.1)
      by_cases hs0 : se = 0
      · subst hs0
        go_wp2
        go_ret
        first | exact ⟨rfl, (HALL.out _ HX.out).2.2⟩ | exact ⟨by simp, (HALL.out _ HX.out).2.2⟩
      · have hq2 : (se != 0) = true := by simpa using hs0
        go_wp2
        go_ret
        first | exact ⟨rfl, (HALL.out _ HX.out).2.2⟩ | exact ⟨by simp, (HALL.out _ HX.out).2.2⟩
  · obtain ⟨r, hr⟩ : ∃ r, (checkR C).2 = r := ⟨_, rfl⟩
    rw [hr] at HSET h0
    have hq : (r != 0) = true := by simpa using h0
    have H0 := Lib.hid h0
    clear h0 hr
    go_enter Tryd.func7, Tryd.ntmps7
    go_wp2_with (first
      | (go_at_call 19; refine (worksT_any _ (HTC.out.below (HALL.out _ HX.out).2.2)).mono ?_; rintro e w1 ⟨rfl, hb⟩; have HXN := Lib.hid (bt HX.out (Nat.le_refl _) hb); clear HX hb c0 c1 c2 c3 c4 c5 c6 c7 c8 c9 c10 x0 x1 x2; have HX := HXN; clear HXN; obtain ⟨c0, c1, c2, c3, c4, c5, c6, c7, c8, c9, c10⟩ := rbox_of (HALL.out _ HX.out).1; obtain ⟨x0, x1, x2⟩ := trioR_of (HALL.out _ HX.out).2.1)
      | (go_at_call 29; refine (HSET.out _ (HALL.out _ HX.out).2.2).mono ?_; rintro e w2 ⟨hb, v1, n1, rfl, hno, _⟩; obtain ⟨rfl, rfl⟩ := hno H0.out; clear hno; have HXN := Lib.hid (bt HX.out (Nat.le_refl _) hb); clear HX hb c0 c1 c2 c3 c4 c5 c6 c7 c8 c9 c10 x0 x1 x2; have HX := HXN; clear HXN; obtain ⟨c0, c1, c2, c3, c4, c5, c6, c7, c8, c9, c10⟩ := rbox_of (HALL.out _ HX.out).1; obtain ⟨x0, x1, x2⟩ := trioR_of (HALL.out _ HX.out).2.1))
    go_ret
    first | exact ⟨rfl, (HALL.out _ HX.out).2.2⟩ | exact ⟨by simp, (HALL.out _ HX.out).2.2⟩
end Go.Proofs.YtbeaicmjohlboaaDoor

/- The walk of TernMost: for whatever circuit, rows and literals the statement's Go function answers true, and nothing that was there has turned. -/
import Derived.Test.YtbeaicmjohlboabDoorTrnW
import Derived.Test.YtbeaicmjohlboabDoorTrnU
import Derived.Test.YtbeaicmjohlboabDoorTrnO
import Derived.Test.YtbeaicmjohlboabDoorArgT
namespace Go.Proofs.YtbeaicmjohlboabDoor
open Go.RowKit

theorem trioM_of {w : World} {g : Nat} {t : TypeId} {a b c : Value} (h : Blk w g t #[a, b, c]) : w.cell? ⟨g, 0, none⟩ = some a ∧ w.cell? ⟨g, 1, none⟩ = some b ∧ w.cell? ⟨g, 2, none⟩ = some c := ⟨by rw [h.cell]; rfl, by rw [h.cell]; rfl, by rw [h.cell]; rfl⟩
theorem litE_in {T : List Int} {l : Int} {n : Nat} (h3 : Row3 T) (hT : T.length = n) (hn : n ≤ 32768) (hl : inLits n l = true) : litE T l = 0 ∧ litX T l = lit3 T l := by
  have h1 := inLits_iff.1 hl
  have e : litE T l = 0 := by
    unfold litE
    rw [if_neg (by omega), if_neg (by rw [hT]; omega), if_pos (ok3_v.2 (row3_at h3 _))]
  exact ⟨e, by unfold litX; rw [if_pos e]⟩
theorem slM_form {E : Type} {k : Nat} {enc : E → List Value} {w : World} {v : Value} {zs : List E} (h : RowE k enc w v zs) : ∃ A n c, v = .slice A n c := by
  obtain ⟨A, c, e, _⟩ := h
  exact ⟨A, _, c, e⟩
theorem liftM_len (C : Circ) (O I lits L : List Int) : (lift3 C O I lits L).length = L.length := liftN_len C O I lits L L.length
theorem liftM_ok {C : Circ} {O L I lits : List Int} (h : liftE C O L I lits = 0) : fit3 C L I = 0 := by
  unfold liftE at h
  by_cases h0 : fit3 C L I = 0
  · exact h0
  · rw [if_neg h0] at h; exact absurd h h0
/-- What a lifted row is, whatever is opened in it. -/
def openM (M : List Int) (q : Nat) : List Int := if q = 0 then M else M.set (q - 1) 2
set_option maxHeartbeats 20000000 in
set_option maxRecDepth 100000 in
theorem ternMost_walk (w : World) (V : CV) (C : Circ) (K : KV) (k : Kase) (htc : TabC w) (h : C.In w V) (ok : C.Ok) (_rm : C.Room ∧ C.Reach) (hk : k.In w K) (hkr : k.Reach) :
    Calls Tryd.prog 3 #[V.val C.max, K.val] w fun e w' => e = .returned (.bool true) ∧ Below w.heap.size w w' := by
  obtain ⟨O, hO⟩ := ord_ex h ok
  obtain ⟨Kl, Ki, Ks⟩ := K
  obtain ⟨L, I, S⟩ := k
  obtain ⟨hs, hr, ht⟩ := hk
  obtain ⟨_, _, _, h64⟩ := hkr
  simp only at hs hr ht h64
  have hsl := hs.len
  obtain ⟨sA, sc, hse, _, _, hsr⟩ := id hs
  obtain ⟨rA, rn, rc, hre⟩ := slM_form hr
  obtain ⟨tA, tc, hte, _, _, htr⟩ := id ht
  subst hse hre hte
  have HLIFT := Lib.hid (fun (wx : World) (hb : Below w.heap.size w wx) => tLift_any wx V C _ _ _ L I S O (h.below hb) ok (htc.below hb) (hs.below hb) (hr.below hb) (ht.below hb) (fun l hl => (h64 l hl).2) hO)
  have HVAL := Lib.hid (fun (wx : World) (ov : Value) (L' : List Int) (hb : Below w.heap.size w wx) (hy : RowE 1 encI wx ov L') => tValues_any wx V C ov _ L' I O (h.below hb) ok (htc.below hb) hy (hr.below hb) hO)
  have HLIT := Lib.hid (fun (wx : World) (v : Value) (T : List Int) (l : Int) (hb : Below w.heap.size w wx) (hv : RowE 1 encI wx v T) (hl : l ∈ S) => tLit_any wx v T l (htc.below hb) hv (h64 l hl).1 (h64 l hl).2)
  have HTC := Lib.hid htc
  obtain ⟨AL, cL, eL, _, _, _⟩ := h.l
  obtain ⟨Vi, Vl, Vo, Vb, Vc, Vj, Vf, Va, Vs, Vt⟩ := V
  simp only at eL
  subst eL
  obtain ⟨m, hmm⟩ : ∃ m, C.max = m := ⟨_, rfl⟩
  obtain ⟨nL, hnL⟩ : ∃ n, C.latches.length = n := ⟨_, rfl⟩
  obtain ⟨sn, hsn⟩ : ∃ n, L.length = n := ⟨_, rfl⟩
  obtain ⟨tn, htn⟩ : ∃ n, S.length = n := ⟨_, rfl⟩
  rw [hmm, hnL, hsn, htn] at HLIFT
  rw [hmm, hnL] at HVAL
  rw [hmm, hnL, hsn, htn]
  have HALL : Hid (∀ wz, Below ((w.alloc (.cells #[.int .i64 m, Vi, .slice AL nL cL, Vo, Vb, Vc, Vj, Vf, Va, Vs, Vt] 29)).alloc (.cells #[.slice sA sn sc, .slice rA rn rc, .slice tA tn tc] 31)).heap.size ((w.alloc (.cells #[.int .i64 m, Vi, .slice AL nL cL, Vo, Vb, Vc, Vj, Vf, Va, Vs, Vt] 29)).alloc (.cells #[.slice sA sn sc, .slice rA rn rc, .slice tA tn tc] 31)) wz → Blk wz w.heap.size 29 #[.int .i64 m, Vi, .slice AL nL cL, Vo, Vb, Vc, Vj, Vf, Va, Vs, Vt] ∧ Blk wz (w.heap.size + 1) 31 #[.slice sA sn sc, .slice rA rn rc, .slice tA tn tc] ∧ Below w.heap.size w wz) := Lib.hid (fun wz hb => by
    have h2 : Blk ((w.alloc (.cells #[.int .i64 m, Vi, .slice AL nL cL, Vo, Vb, Vc, Vj, Vf, Va, Vs, Vt] 29)).alloc (.cells #[.slice sA sn sc, .slice rA rn rc, .slice tA tn tc] 31)) (w.heap.size + 1) 31 #[.slice sA sn sc, .slice rA rn rc, .slice tA tn tc] := by
      have := Blk.new (w.alloc (.cells #[.int .i64 m, Vi, .slice AL nL cL, Vo, Vb, Vc, Vj, Vf, Va, Vs, Vt] 29)) 31 #[.slice sA sn sc, .slice rA rn rc, .slice tA tn tc]
      rw [show (w.alloc (.cells #[.int .i64 m, Vi, .slice AL nL cL, Vo, Vb, Vc, Vj, Vf, Va, Vs, Vt] 29)).heap.size = w.heap.size + 1 by simp] at this
      exact this
    exact ⟨((Blk.new w _ _).alloc _).below hb (by simp; omega), h2.below hb (by simp), (((Below.refl w.heap.size w).alloc (Nat.le_refl _) _).alloc (by simp) _).trans (hb.mono (by simp; omega))⟩)
  have HX : Hid (Below ((w.alloc (.cells #[.int .i64 m, Vi, .slice AL nL cL, Vo, Vb, Vc, Vj, Vf, Va, Vs, Vt] 29)).alloc (.cells #[.slice sA sn sc, .slice rA rn rc, .slice tA tn tc] 31)).heap.size ((w.alloc (.cells #[.int .i64 m, Vi, .slice AL nL cL, Vo, Vb, Vc, Vj, Vf, Va, Vs, Vt] 29)).alloc (.cells #[.slice sA sn sc, .slice rA rn rc, .slice tA tn tc] 31)) ((w.alloc (.cells #[.int .i64 m, Vi, .slice AL nL cL, Vo, Vb, Vc, Vj, Vf, Va, Vs, Vt] 29)).alloc (.cells #[.slice sA sn sc, .slice rA rn rc, .slice tA tn tc] 31))) := Lib.hid (Below.refl _ _)
  have HSR := Lib.hid hsr
  have HTR := Lib.hid htr
  have HMM := Lib.hid hmm
  have HNL := Lib.hid hnL
  have HSN := Lib.hid hsn
  have HTN := Lib.hid htn
  have HO := Lib.hid hO
  have H64 := Lib.hid h64
  clear h ok hmm hnL hsn htn hO hs hr ht htc h64 hsr htr hsl
  obtain ⟨c0, c1, c2, c3, c4, c5, c6, c7, c8, c9, c10⟩ := rbox_of (HALL.out _ HX.out).1; obtain ⟨x0, x1, x2⟩ := trioM_of (HALL.out _ HX.out).2.1
  by_cases h0 : liftE C O L I S = 0
  · rw [h0] at HLIFT
    have hfit := fit3_ok (liftM_ok h0)
    obtain ⟨hck, ⟨hLl, hL3⟩, hIl, hI3⟩ := hfit
    have hte := trueE_zero (by have := h0; unfold liftE at this; rwa [if_pos (liftM_ok h0)] at this)
    obtain ⟨htl, htin, hton⟩ := hte
    have htn1 : tn ≤ 16384 := by rw [← HTN.out]; exact htl
    have HRT := Lib.hid (right_of hck)
    obtain ⟨mn, hmn⟩ : ∃ mn : Nat, m = (mn : Int) := ⟨m.toNat, by have := (right_of hck).m0; rw [HMM.out] at this; omega⟩
    subst hmn
    have hmt : ((mn : Int)).toNat = mn := by omega
    have hm1 := HRT.out.m1
    rw [HMM.out] at hm1
    have hnl1 := HRT.out.nl
    rw [HNL.out] at hnl1
    have hLn : L.length = nL := hLl.trans HNL.out
    have hsn2 : sn = nL := by rw [← HSN.out, hLn]
    subst hsn2
    rw [hmt] at HVAL
    have hmost := lift_most hck (HO.out hck) hLl hIl hton
    obtain ⟨M, hM⟩ : ∃ M, lift3 C O I S L = M := ⟨_, rfl⟩
    rw [hM] at HLIFT hmost
    have HM3 : Hid (Row3 M) := Lib.hid (by rw [← hM]; exact row3_lift hL3 L.length)
    have HML : Hid (M.length = sn) := Lib.hid (by rw [← hM, liftM_len, hLn])
    have HMOST : Hid (∀ q, q ≤ sn → (q = 0 ∨ M.getD (q - 1) 0 ≠ 2) → ones3 (val3 C O (openM M q) I) S = decide (q = 0)) := Lib.hid (fun q hq hc => by
      unfold openM
      by_cases e : q = 0
      · rw [if_pos e, hmost.1]; simp [e]
      · rw [if_neg e, hmost.2.2 (q - 1) (by rw [hLn]; omega) (by rcases hc with h | h; exact absurd h e; exact h)]; simp [e])
    have HLE : Hid (∀ k, M.getD k 0 = 2 ∨ L.getD k 0 = M.getD k 0) := Lib.hid (fun k => by rcases hmost.2.1 k with e | e; exact .inr e; exact .inl e)
    have HFIT : Hid (∀ L', L'.length = sn → Row3 L' → fit3 C L' I = 0) := Lib.hid (fun L' h1 h2 => fit3_yes hck (okRow_iff.2 ⟨by rw [HNL.out]; exact h1, h2⟩) (okRow_iff.2 ⟨hIl, hI3⟩))
    have HVR : Hid (∀ L', Row3 L' → Row3 (val3 C O L' I)) := Lib.hid (fun L' h1 => row3_val h1 hI3)
    have HVL : Hid (∀ L', (val3 C O L' I).length = mn + 1) := Lib.hid (fun L' => by rw [val3_len, HMM.out]; rfl)
    have HTIN : Hid (∀ l ∈ S, inLits (mn + 1) l = true) := Lib.hid (fun l hl => by have := (List.all_eq_true.1 htin) l hl; rwa [HVL.out] at this)
    clear hck hLl hL3 hIl hI3 htl htin hton hmt hLn hM hmost h0
    go_enter Tryd.func3, Tryd.ntmps3
    go_upto_region 3 with (go_at_call 4; refine (worksT_any _ (HTC.out.below (HALL.out _ HX.out).2.2)).mono ?_; rintro e w1 ⟨rfl, hb⟩; have HXN := Lib.hid (bt HX.out (Nat.le_refl _) hb); clear HX hb c0 c1 c2 c3 c4 c5 c6 c7 c8 c9 c10 x0 x1 x2; have HX := HXN; clear HXN; obtain ⟨c0, c1, c2, c3, c4, c5, c6, c7, c8, c9, c10⟩ := rbox_of (HALL.out _ HX.out).1; obtain ⟨x0, x1, x2⟩ := trioM_of (HALL.out _ HX.out).2.1)
    go_upto_region 6 with (go_at_call 5; refine (HLIFT.out _ (HALL.out _ HX.out).2.2).mono ?_; rintro e w2 ⟨hb, v1, rfl, _, hyes⟩; obtain ⟨g1, rfl, hg1, ht1⟩ := hyes (by first | rfl | trivial); have HT1 := Lib.hid ht1; clear hyes hg1 ht1; have HXN := Lib.hid (bt HX.out (Nat.le_refl _) hb); clear HX hb c0 c1 c2 c3 c4 c5 c6 c7 c8 c9 c10 x0 x1 x2; have HX := HXN; clear HXN; obtain ⟨c0, c1, c2, c3, c4, c5, c6, c7, c8, c9, c10⟩ := rbox_of (HALL.out _ HX.out).1; obtain ⟨x0, x1, x2⟩ := trioM_of (HALL.out _ HX.out).2.1)
    have hmk0 : M.length = sn := HML.out
    have HB0 : Hid (Below w2.heap.size w2 w2) := Lib.hid (Below.refl _ _)
    have HSNB := Lib.hid hnl1
    have hqm : ((sn : Int) != (sn : Int)) = false := by simp
    clear hmk0
    go_upto_region 8 with (fail)
    clear c0 c1 c2 c3 c4 c5 c6 c7 c8 c9 c10 x0 x1 x2 hqm
    go_wp2
    go_loopg [7] (sn + 1) (fun j iv wx => ∃ (q : Nat) (z : Int), q ≤ sn + 1 ∧ j = sn + 1 - q ∧ iv = .int .i64 z ∧ z = (q : Int) - 1 ∧ Below w2.heap.size w2 wx)
    case atStart => exact ⟨0, -1, Nat.zero_le _, rfl, rfl, rfl, HB0.out⟩
    case round =>
      obtain ⟨q, z, hq, hgk, rfl, hz, hbx⟩ := hrel
      subst hgk
      clear HB0
      have HBX := Lib.hid hbx
      have hnu := Blk.below HT1.out hbx (Blk.lt HT1.out)
      obtain ⟨W3, hW3⟩ : ∃ W3 : World, W3 = wr := ⟨_, rfl⟩
      subst hW3
      by_cases hlt : q < sn + 1
      · have hzl : z < (sn : Int) := by omega
        have hrow3 := nums_row hnu (by rw [HML.out]; have := HSNB.out; unfold maxLen; omega)
        obtain ⟨A9, c9s, e9, hrd⟩ := RowE.reads lenI (by omega) hrow3
        rw [HML.out] at e9
        injection e9 with e91 e92 e93
        subst e91 e93
        rw [flat_ints, HML.out] at hrd
        have HRD := Lib.hid hrd
        have HNU := Lib.hid hnu
        obtain ⟨i0, hi0, hz0, hz1, hz2⟩ := info_parts int_infoL
        clear hrow3 e92 hrd hnu hbx
        go_upto_region 12 with (at_builtin; refine wpList_append_any _ rfl (.tmp 46) (.tmp 47) _ rfl W3.heap.size 3 i0 _ 1 8 Tryd.underlying22 hi0 hz0 hz1 hz2 rfl (by omega) (.slice (some ⟨W3.heap.size, 0, none⟩) 0 0) 0 [] rfl (World.ownsRow_made W3 #[] 0 (Nat.le_refl _) (by simp [maxLen]) rfl) W3.heap.size (some ⟨g1, 0, none⟩) sn sn (ints M) rfl (HRD.out.alloc (Nat.le_refl _) _) (ints_one M) (by have := HSNB.out; simp only [maxLen]; omega) (by have := HSNB.out; omega) (by simp) ?_; intro v5 w5 hown5 hg5 hat5; rw [Nat.zero_add, List.nil_append] at hown5; have HO5 := Lib.hid hown5; have HB5 : Hid (Below W3.heap.size W3 w5) := Lib.hid (((Below.refl _ _).alloc (Nat.le_refl _) _).grown hg5 (by simp) (by intro k hk; cases hk; exact Nat.le_refl _)); clear hg5 hat5; obtain ⟨A5, c5v, hv5⟩ := own_slice_k hown5; subst hv5; clear hown5)
        rcases Nat.eq_zero_or_pos q with hq0 | hq0
        · subst hq0
          have hzm : z = -1 := by omega
          subst hzm
          have HROW5 : Hid (RowE 1 encI w5 (.slice A5 sn c5v) (openM M 0)) := Lib.hid (own_rowe lenI (by rw [flat_ints]; show w5.ownsRow _ _ _ _ M.length _; rw [HML.out]; exact HO5.out))
          have HL5 : Hid ((openM M 0).length = sn ∧ Row3 (openM M 0)) := Lib.hid ⟨HML.out, HM3.out⟩
          have HON : Hid (ones3 (val3 C O (openM M 0) I) S = true) := Lib.hid (by rw [HMOST.out 0 (Nat.zero_le _) (.inl rfl)]; rfl)
          generalize openM M 0 = L5 at *
          have HB5W := Lib.hid (bt HBX.out (Nat.le_refl _) HB5.out)
          clear hz HO5 HB5 hlt hzl
          obtain ⟨T7, hT7⟩ : ∃ T, val3 C O L5 I = T := ⟨_, rfl⟩
          have hval := HVAL.out w5 _ L5 (HALL.out _ (bt HX.out (Nat.le_refl _) HB5W.out)).2.2 HROW5.out
          rw [HFIT.out _ HL5.out.1 HL5.out.2, hT7] at hval
          have HV7 := Lib.hid hval
          have HT7L : Hid (T7.length = mn + 1) := Lib.hid (by rw [← hT7]; exact HVL.out _)
          have HT73 : Hid (Row3 T7) := Lib.hid (by rw [← hT7]; exact HVR.out _ HL5.out.2)
          have HON7 : Hid (ones3 T7 S = true) := Lib.hid (by rw [← hT7]; exact HON.out)
          clear hval hT7 HON
          obtain ⟨c0, c1, c2, c3, c4, c5, c6, c7, c8, c9, c10⟩ := rbox_of (HALL.out _ (bt HX.out (Nat.le_refl _) HB5W.out)).1
          obtain ⟨x0, x1, x2⟩ := trioM_of (HALL.out _ (bt HX.out (Nat.le_refl _) HB5W.out)).2.1
          go_upto_region 18 with (go_at_call 6; refine HV7.out.mono ?_; rintro e w7 ⟨hb7, v7, rfl, _, hyes⟩; obtain ⟨g7, rfl, _, ht7⟩ := hyes (by first | rfl | trivial); have HT7 := Lib.hid ht7; have HB7 := Lib.hid (bt HB5W.out (Nat.le_refl _) hb7); clear hyes ht7 hb7 c0 c1 c2 c3 c4 c5 c6 c7 c8 c9 c10 x0 x1 x2)
          have hrow7 : RowE 1 encI w7 (.slice (some ⟨g7, 0, none⟩) (mn + 1) (mn + 1)) T7 := by have := nums_row HT7.out (by rw [HT7L.out]; unfold maxLen; omega); rwa [HT7L.out] at this
          have HROW7 := Lib.hid hrow7
          have HBW7 := Lib.hid (HALL.out _ (bt HX.out (Nat.le_refl _) HB7.out)).2.2
          obtain ⟨x0, x1, x2⟩ := trioM_of (HALL.out _ (bt HX.out (Nat.le_refl _) HB7.out)).2.1
          clear hrow7
          go_wp2
          go_loopg [11, 82] tn (fun j av iv wx => ∃ p : Nat, p ≤ tn ∧ j = tn - p ∧ av = .bool (ones3 T7 (S.take p)) ∧ iv = .int .i64 p ∧ wx = w7)
          case atStart => exact ⟨0, Nat.zero_le _, rfl, rfl, rfl, rfl⟩
          case round =>
            obtain ⟨p, hp, hgk2, rfl, rfl, hw7⟩ := hrel
            subst hgk2
            rw [hw7]
            clear hw7 x0 x1 x2
            by_cases hlp : p < tn
            · obtain ⟨l, hl⟩ : ∃ l, S[p]? = some l := ⟨_, List.getElem?_eq_getElem (by rw [HTN.out]; exact hlp)⟩
              obtain ⟨lb, loff, e, hlb, hcell⟩ := HTR.out p l hl
              subst e
              have k0 := (HBW7.out.cell (p := ⟨lb, loff + (p * 1 + 0), none⟩) hlb).trans (hcell 0 _ rfl)
              simp only [Nat.mul_one, Nat.add_zero] at k0
              have hlm := List.mem_of_getElem? hl
              have hlit := HLIT.out _ _ T7 l HBW7.out HROW7.out hlm
              have hli := litE_in HT73.out HT7L.out (by omega) (HTIN.out l hlm)
              obtain ⟨x, hx⟩ : ∃ x, lit3 T7 l = x := ⟨_, rfl⟩
              rw [hli.1, hli.2, hx] at hlit
              have HLC := Lib.hid hlit
              obtain ⟨b, hb⟩ : ∃ b, ones3 T7 (S.take p) = b := ⟨_, rfl⟩
              rw [hb]
              have HTK : Hid (ones3 T7 (S.take (p + 1)) = (b && decide (x = 1))) := Lib.hid (by
                rw [List.take_add_one, hl, ← hb, ← hx]
                unfold ones3
                rw [List.all_append]
                simp)
              have hpi : (p : Int) < (tn : Int) := by omega
              have hpi0 : (0 : Int) ≤ (p : Int) := by omega
              clear hcell hl hlm hlit hli hx hb
              cases b
              · have HTK2 : Hid (ones3 T7 (S.take (p + 1)) = false) := Lib.hid (by rw [HTK.out]; rfl)
                go_wp2_with (go_at_call 7; refine HLC.out.mono ?_; rintro e w8 ⟨rfl, hw8⟩; rw [hw8]; clear hw8 w8)
                go_roundg (tn - (p + 1))
                case measure => omega
                case rel => exact ⟨p + 1, by omega, rfl, by rw [HTK2.out], by go_num, rfl⟩
              · by_cases hx1 : x = 1
                · have HTK2 : Hid (ones3 T7 (S.take (p + 1)) = true) := Lib.hid (by rw [HTK.out, hx1]; rfl)
                  subst hx1
                  go_wp2_with (go_at_call 7; refine HLC.out.mono ?_; rintro e w8 ⟨rfl, hw8⟩; rw [hw8]; clear hw8 w8)
                  go_roundg (tn - (p + 1))
                  case measure => omega
                  case rel => exact ⟨p + 1, by omega, rfl, by rw [HTK2.out], by go_num, rfl⟩
                · have HTK2 : Hid (ones3 T7 (S.take (p + 1)) = false) := Lib.hid (by rw [HTK.out]; simp [hx1])
                  have hx2 : (x == 1) = false := by simpa using hx1
                  go_wp2_with (go_at_call 7; refine HLC.out.mono ?_; rintro e w8 ⟨rfl, hw8⟩; rw [hw8]; clear hw8 w8)
                  go_roundg (tn - (p + 1))
                  case measure => omega
                  case rel => exact ⟨p + 1, by omega, rfl, by rw [HTK2.out], by go_num, rfl⟩
            · have hpe : ones3 T7 (S.take p) = true := by rw [List.take_of_length_le (by rw [HTN.out]; omega)]; exact HON7.out
              rw [hpe]
              have hpi : ¬ (p : Int) < (tn : Int) := by omega
              clear hpe
              go_wp2
              go_roundg (sn + 1 - (0 + 1))
              case measure => omega
              case rel => exact ⟨0 + 1, ((0 : Nat) : Int), by omega, rfl, by first | rfl | go_num, by first | omega | (push_cast; omega), HB7.out⟩
        · obtain ⟨k, hk⟩ : ∃ k, q = k + 1 := ⟨q - 1, by omega⟩
          subst hk
          have hzk : z = (k : Int) := by push_cast at hz; omega
          subst hzk
          have hks : k < sn := by omega
          obtain ⟨y, hy⟩ : ∃ y, M.getD k 0 = y := ⟨_, rfl⟩
          have u1 := Blk.below HNU.out HB5.out (Blk.lt HNU.out)
          have y0 := Nums.cell u1 (getD_int (show k < M.length by rw [HML.out]; exact hks))
          rw [hy] at y0
          have hki0 : (0 : Int) ≤ (k : Int) := by omega
          have hki : (k : Int) < (sn : Int) := by omega
          have hg1l := Blk.lt u1
          by_cases hy2 : y = 2
          · subst hy2
            have HB5W := Lib.hid (bt HBX.out (Nat.le_refl _) HB5.out)
            clear hy u1 hz
            go_wp2
            go_roundg (sn + 1 - (k + 1 + 1))
            case measure => omega
            case rel => exact ⟨k + 1 + 1, ((k + 1 : Nat) : Int), by omega, rfl, by go_num, by push_cast; omega, HB5W.out⟩
          · obtain ⟨y', hy'⟩ : ∃ y', L[k]? = some y' := ⟨_, List.getElem?_eq_getElem (by rw [HSN.out]; exact hks)⟩
            have hyl : L.getD k 0 = y' := by rw [List.getD_eq_getElem?_getD, hy']; rfl
            have hyy : y' = y := by
              rcases HLE.out k with e | e
              · rw [hy] at e; exact absurd e hy2
              · rw [hy, hyl] at e; exact e
            subst hyy
            have HYM := Lib.hid hy
            obtain ⟨sb, soff, e, hsb, hsc⟩ := HSR.out k y' hy'
            subst e
            have HB5W := Lib.hid (bt HBX.out (Nat.le_refl _) HB5.out)
            have s0 := ((HALL.out _ (bt HX.out (Nat.le_refl _) HB5W.out)).2.2.cell (p := ⟨sb, soff + (k * 1 + 0), none⟩) hsb).trans (hsc 0 _ rfl)
            simp only [Nat.mul_one, Nat.add_zero] at s0
            obtain ⟨x0, x1, x2⟩ := trioM_of (HALL.out _ (bt HX.out (Nat.le_refl _) HB5W.out)).2.1
            have hy2b : (y' == 2) = false := by simpa using hy2
            have HON : Hid (ones3 (val3 C O (openM M (k + 1)) I) S = false) := Lib.hid (by rw [HMOST.out (k + 1) (by omega) (.inr (by rw [show k + 1 - 1 = k by omega, hy]; exact hy2))]; simp)
            clear hsc hy hyl hy' u1 hz hg1l
            obtain ⟨g5, cap5, cur5, e5, hB5, hg5, h51, h52, h53, h54⟩ := own_form HO5.out (by omega)
            injection e5 with e51 _ e53
            subst e51 e53
            clear hg5 h51 h52 h53 h54 hB5
            obtain ⟨wd, hwd⟩ : ∃ wd, w5.drew = wd := ⟨_, rfl⟩
            have hod : wd.ownsRow W3.heap.size 3 1 (.slice (some ⟨g5, 0, none⟩) sn c5v) sn (ints M) := by rw [← hwd]; exact HO5.out
            obtain ⟨hB5, ⟨cs5, hblk5⟩, hfr5, hcell5, hset5⟩ := own_set1U hod hks (.int .i64 2)
            rw [show (ints M)[k]? = some (Value.int .i64 y') by rw [List.getElem?_map, List.getElem?_eq_getElem (by rw [HML.out]; exact hks)]; have := HYM.out; rw [List.getD_eq_getElem?_getD, List.getElem?_eq_getElem (by rw [HML.out]; exact hks)] at this; simpa using this] at hcell5
            have hfrq := hfr5 k
            have hgl5 := Blk.lt hblk5
            obtain ⟨w6, hw6⟩ : ∃ w6, wd.setCell ⟨g5, k, none⟩ (.int .i64 2) = w6 := ⟨_, rfl⟩
            rw [hw6] at hset5
            have HROW5 : Hid (RowE 1 encI w6 (.slice (some ⟨g5, 0, none⟩) sn c5v) (openM M (k + 1))) := Lib.hid (own_rowe lenI (by
              have e9 : openM M (k + 1) = M.set k 2 := by unfold openM; rw [if_neg (by omega)]; rfl
              rw [flat_ints, e9, List.length_set, HML.out, List.map_set]
              exact hset5))
            have HL5 : Hid ((openM M (k + 1)).length = sn ∧ Row3 (openM M (k + 1))) := Lib.hid (by
              have e9 : openM M (k + 1) = M.set k 2 := by unfold openM; rw [if_neg (by omega)]; rfl
              rw [e9, List.length_set]
              exact ⟨HML.out, row3_set HM3.out _ (.inr (.inr rfl))⟩)
            have HB6W : Hid (Below w2.heap.size w2 w6) := Lib.hid (by
              rw [← hw6, ← hwd]
              exact HB5W.out.drew.setCell (by show w2.heap.size ≤ g5; have := HBX.out.size; omega) _)
            generalize openM M (k + 1) = L5 at *
            have HWD := Lib.hid hwd
            have HW6 := Lib.hid hw6
            have hkn : ¬ (k : Int) < 0 := by omega
            clear hod hblk5 hfr5 hset5 hwd hw6
            go_upto_region 14 with (fail)
            go_region
            rw [HWD.out]
            clear s0 y0 x0 x1 x2
            go_upto_region 17 with (fail)
            rw [HW6.out]
            have HB5W2 := HB6W
            clear HB5W HO5 HB5 hfrq hgl5 hcell5 hB5
            have HB5W := HB5W2
            obtain ⟨T7, hT7⟩ : ∃ T, val3 C O L5 I = T := ⟨_, rfl⟩
            have hval := HVAL.out w6 _ L5 (HALL.out _ (bt HX.out (Nat.le_refl _) HB5W.out)).2.2 HROW5.out
            rw [HFIT.out _ HL5.out.1 HL5.out.2, hT7] at hval
            have HV7 := Lib.hid hval
            have HT7L : Hid (T7.length = mn + 1) := Lib.hid (by rw [← hT7]; exact HVL.out _)
            have HT73 : Hid (Row3 T7) := Lib.hid (by rw [← hT7]; exact HVR.out _ HL5.out.2)
            have HON7 : Hid (ones3 T7 S = false) := Lib.hid (by rw [← hT7]; exact HON.out)
            clear hval hT7 HON
            obtain ⟨c0, c1, c2, c3, c4, c5, c6, c7, c8, c9, c10⟩ := rbox_of (HALL.out _ (bt HX.out (Nat.le_refl _) HB5W.out)).1
            obtain ⟨x0, x1, x2⟩ := trioM_of (HALL.out _ (bt HX.out (Nat.le_refl _) HB5W.out)).2.1
            go_upto_region 18 with (go_at_call 6; refine HV7.out.mono ?_; rintro e w7 ⟨hb7, v7, rfl, _, hyes⟩; obtain ⟨g7, rfl, _, ht7⟩ := hyes (by first | rfl | trivial); have HT7 := Lib.hid ht7; have HB7 := Lib.hid (bt HB5W.out (Nat.le_refl _) hb7); clear hyes ht7 hb7 c0 c1 c2 c3 c4 c5 c6 c7 c8 c9 c10 x0 x1 x2)
            have hrow7 : RowE 1 encI w7 (.slice (some ⟨g7, 0, none⟩) (mn + 1) (mn + 1)) T7 := by have := nums_row HT7.out (by rw [HT7L.out]; unfold maxLen; omega); rwa [HT7L.out] at this
            have HROW7 := Lib.hid hrow7
            have HBW7 := Lib.hid (HALL.out _ (bt HX.out (Nat.le_refl _) HB7.out)).2.2
            obtain ⟨x0, x1, x2⟩ := trioM_of (HALL.out _ (bt HX.out (Nat.le_refl _) HB7.out)).2.1
            clear hrow7
            go_wp2
            go_loopg [11, 82] tn (fun j av iv wx => ∃ p : Nat, p ≤ tn ∧ j = tn - p ∧ av = .bool (ones3 T7 (S.take p)) ∧ iv = .int .i64 p ∧ wx = w7)
            case atStart => exact ⟨0, Nat.zero_le _, rfl, rfl, rfl, rfl⟩
            case round =>
              obtain ⟨p, hp, hgk2, rfl, rfl, hw7⟩ := hrel
              subst hgk2
              rw [hw7]
              clear hw7 x0 x1 x2
              by_cases hlp : p < tn
              · obtain ⟨l, hl⟩ : ∃ l, S[p]? = some l := ⟨_, List.getElem?_eq_getElem (by rw [HTN.out]; exact hlp)⟩
                obtain ⟨lb, loff, e, hlb, hcell⟩ := HTR.out p l hl
                subst e
                have k0 := (HBW7.out.cell (p := ⟨lb, loff + (p * 1 + 0), none⟩) hlb).trans (hcell 0 _ rfl)
                simp only [Nat.mul_one, Nat.add_zero] at k0
                have hlm := List.mem_of_getElem? hl
                have hlit := HLIT.out _ _ T7 l HBW7.out HROW7.out hlm
                have hli := litE_in HT73.out HT7L.out (by omega) (HTIN.out l hlm)
                obtain ⟨x, hx⟩ : ∃ x, lit3 T7 l = x := ⟨_, rfl⟩
                rw [hli.1, hli.2, hx] at hlit
                have HLC := Lib.hid hlit
                obtain ⟨b, hb⟩ : ∃ b, ones3 T7 (S.take p) = b := ⟨_, rfl⟩
                rw [hb]
                have HTK : Hid (ones3 T7 (S.take (p + 1)) = (b && decide (x = 1))) := Lib.hid (by
                  rw [List.take_add_one, hl, ← hb, ← hx]
                  unfold ones3
                  rw [List.all_append]
                  simp)
                have hpi : (p : Int) < (tn : Int) := by omega
                have hpi0 : (0 : Int) ≤ (p : Int) := by omega
                clear hcell hl hlm hlit hli hx hb
                cases b
                · have HTK2 : Hid (ones3 T7 (S.take (p + 1)) = false) := Lib.hid (by rw [HTK.out]; rfl)
                  go_wp2_with (go_at_call 7; refine HLC.out.mono ?_; rintro e w8 ⟨rfl, hw8⟩; rw [hw8]; clear hw8 w8)
                  go_roundg (tn - (p + 1))
                  case measure => omega
                  case rel => exact ⟨p + 1, by omega, rfl, by rw [HTK2.out], by go_num, rfl⟩
                · by_cases hx1 : x = 1
                  · have HTK2 : Hid (ones3 T7 (S.take (p + 1)) = true) := Lib.hid (by rw [HTK.out, hx1]; rfl)
                    subst hx1
                    go_wp2_with (go_at_call 7; refine HLC.out.mono ?_; rintro e w8 ⟨rfl, hw8⟩; rw [hw8]; clear hw8 w8)
                    go_roundg (tn - (p + 1))
                    case measure => omega
                    case rel => exact ⟨p + 1, by omega, rfl, by rw [HTK2.out], by go_num, rfl⟩
                  · have HTK2 : Hid (ones3 T7 (S.take (p + 1)) = false) := Lib.hid (by rw [HTK.out]; simp [hx1])
                    have hx2 : (x == 1) = false := by simpa using hx1
                    go_wp2_with (go_at_call 7; refine HLC.out.mono ?_; rintro e w8 ⟨rfl, hw8⟩; rw [hw8]; clear hw8 w8)
                    go_roundg (tn - (p + 1))
                    case measure => omega
                    case rel => exact ⟨p + 1, by omega, rfl, by rw [HTK2.out], by go_num, rfl⟩
              · have hpe : ones3 T7 (S.take p) = false := by rw [List.take_of_length_le (by rw [HTN.out]; omega)]; exact HON7.out
                rw [hpe]
                have hpi : ¬ (p : Int) < (tn : Int) := by omega
                clear hpe
                go_wp2
                go_roundg (sn + 1 - ((k + 1) + 1))
                case measure => omega
                case rel => exact ⟨(k + 1) + 1, (((k + 1) : Nat) : Int), by omega, rfl, by first | rfl | go_num, by first | omega | (push_cast; omega), HB7.out⟩
      · have hqe : z = (sn : Int) := by omega
        subst hqe
        have hqi : ¬ (sn : Int) < (sn : Int) := by omega
        clear hnu hz
        go_wp2
        go_ret
        exact ⟨rfl, (HALL.out _ (bt HX.out (Nat.le_refl _) HBX.out)).2.2⟩
  · obtain ⟨r, hr⟩ : ∃ r, liftE C O L I S = r := ⟨_, rfl⟩
    rw [hr] at HLIFT h0
    have hq : (r != 0) = true := by simpa using h0
    have H0 := Lib.hid h0
    clear h0 hr
    go_enter Tryd.func3, Tryd.ntmps3
    go_wp2_with (first
      | (go_at_call 4; refine (worksT_any _ (HTC.out.below (HALL.out _ HX.out).2.2)).mono ?_; rintro e w1 ⟨rfl, hb⟩; have HXN := Lib.hid (bt HX.out (Nat.le_refl _) hb); clear HX hb c0 c1 c2 c3 c4 c5 c6 c7 c8 c9 c10 x0 x1 x2; have HX := HXN; clear HXN; obtain ⟨c0, c1, c2, c3, c4, c5, c6, c7, c8, c9, c10⟩ := rbox_of (HALL.out _ HX.out).1; obtain ⟨x0, x1, x2⟩ := trioM_of (HALL.out _ HX.out).2.1)
      | (go_at_call 5; refine (HLIFT.out _ (HALL.out _ HX.out).2.2).mono ?_; rintro e w2 ⟨hb, v1, rfl, hno, _⟩; obtain rfl := hno H0.out; clear hno; have HXN := Lib.hid (bt HX.out (Nat.le_refl _) hb); clear HX hb c0 c1 c2 c3 c4 c5 c6 c7 c8 c9 c10 x0 x1 x2; have HX := HXN; clear HXN; obtain ⟨c0, c1, c2, c3, c4, c5, c6, c7, c8, c9, c10⟩ := rbox_of (HALL.out _ HX.out).1; obtain ⟨x0, x1, x2⟩ := trioM_of (HALL.out _ HX.out).2.1))
    go_ret
    first | exact ⟨rfl, (HALL.out _ HX.out).2.2⟩ | exact ⟨by simp, (HALL.out _ HX.out).2.2⟩
end Go.Proofs.YtbeaicmjohlboabDoor

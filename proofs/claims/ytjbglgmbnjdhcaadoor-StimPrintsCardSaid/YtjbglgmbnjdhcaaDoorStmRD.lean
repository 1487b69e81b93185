/- Stim: the document's text, Print. -/
import Derived.Test.YtjbglgmbnjdhcaaDoorStmRC
namespace Go.Proofs.YtjbglgmbnjdhcaaDoor
open Go.RowKit

set_option maxHeartbeats 20000000 in
set_option maxRecDepth 100000 in
theorem rTextW_any (w : World) (x : Wit) (vp vi vr : Value) (h : WtIn w x vp vi vr) (hx : WtOk x) :
    Calls Tryd.prog 16 #[.agg #[.int .i64 x.st, vp, vi, vr, .int .i64 x.tr.loop]] w fun e w' => ∃ v, e = .returned v ∧ RowM w' w.heap.size v (textW x) ∧ Below w.heap.size w w' := by
  have HWH := Lib.hid (fun (wx : World) (n : Nat) (hn : n ≤ 2147483647) => rWhole_any n wx hn)
  have HBT := Lib.hid (fun (wx : World) (v : Value) (r : List Bool) (hb : Below w.heap.size w wx) (h : RowE 1 encO w v r) (hr : r.length ≤ 16384) => rBits0_any wx v r (h.below hb) (by omega))
  obtain ⟨AP, cP, eP, hat⟩ := prop_at h.p
  obtain ⟨AR, cR, eR, hrm, hrr⟩ := h.t.r.at_
  have hti := h.t.i
  obtain ⟨AI, nI, cI, eI⟩ := slO_form h.t.i
  simp only at eR eI
  subst eP eR eI
  obtain ⟨nR, hnR⟩ : ∃ k, x.tr.rows.length = k := ⟨_, rfl⟩
  obtain ⟨np, hnp⟩ : ∃ k, x.ps.length = k := ⟨_, rfl⟩
  obtain ⟨st, hst⟩ : ∃ k, x.st = k := ⟨_, rfl⟩
  obtain ⟨lp, hlp⟩ : ∃ k, x.tr.loop = k := ⟨_, rfl⟩
  have hnq : np ≤ 16384 := by rw [← hnp]; exact hx.n
  obtain ⟨s, rfl⟩ : ∃ s : Nat, st = s := ⟨st.toNat, by have := hx.s; omega⟩
  have hs2 : s ≤ 2 := by have := hx.s; omega
  rw [hst, hlp, hnR, hnp]
  have HAT := Lib.hid hat
  have HRR := Lib.hid hrr
  have HTI := Lib.hid hti
  have HOK := Lib.hid hx
  have HN := Lib.hid (And.intro hnp hnR)
  have HST := Lib.hid (And.intro hst hlp)
  have HS2 := Lib.hid hs2
  have HNQ := Lib.hid hnq
  have HAX := Lib.hid (Blk.new w 28 #[.int .i64 (s : Int), .slice AP np cP, .slice AI nI cI, .slice AR nR cR, .int .i64 lp])
  have HBX : Hid (Below w.heap.size w (w.alloc (.cells #[.int .i64 (s : Int), .slice AP np cP, .slice AI nI cI, .slice AR nR cR, .int .i64 lp] 28))) := Lib.hid ((Below.refl _ _).alloc (Nat.le_refl _) _)
  have hd1 := dec_len 0 s (by omega)
  have HD1 := Lib.hid hd1
  clear h hx hat hrr hti hnp hnR hst hlp hnq hs2
  go_enter Tryd.func16, Tryd.ntmps16
  go_upto_region 1 with (fail)
  generalize w.alloc (.cells #[.int .i64 (s : Int), .slice AP np cP, .slice AI nI cI, .slice AR nR cR, .int .i64 lp] 28) = X at HAX HBX ⊢
  obtain ⟨c0, c1, c2, c3, c4⟩ := five_of HAX.out
  have hT1 := cat_strB (dec s) [10]
  obtain ⟨v1, W1, hcv, hm1, hb1⟩ := run_bytesM X w.heap.size (dec s ++ [10]) HBX.out.size (by simp only [List.length_append, List.length_cons, List.length_nil]; unfold maxLen; omega)
  have HMW1 := Lib.hid hm1
  have HAW1 := Lib.hid (Blk.below HAX.out hb1 (Blk.lt HAX.out))
  have HBW1 := Lib.hid (bt HBX.out (Nat.le_refl _) hb1)
  have hsz1 : (strB (dec s)).size = (dec s).length := strB_size _
  have hl10 : (⟨#[10]⟩ : ByteArray).size = 1 := rfl
  have hl10e : strB [10] = ⟨#[10]⟩ := rfl
  rw [hl10e] at hT1
  have hws := HWH.out X s (by have := HS2.out; omega)
  clear hm1 hb1 hl10e
  generalize strB (dec s ++ [10]) = T0 at hT1 hcv
  generalize strB (dec s) = T1 at hT1 hsz1 hws
  have hnl : ¬ 9223372036854775807 < T1.size + 1 := by omega
  have HWS := Lib.hid hws
  clear hws hsz1 hd1
  go_upto_region 3 with (go_at_call 31; refine HWS.out.mono ?_; rintro e w8 ⟨rfl, rfl⟩)
  clear c0 c1 c2 c3 c4 hT1 hcv hnl HWS
  go_loopg [3, 4] np (fun j bv iv wr => ∃ (k : Nat) (l : Bs), k ≤ np ∧ iv = .int .i64 k ∧ j = np - k ∧ l = (dec s ++ [10]) ++ propsL (x.ps.take k) ∧ l.length ≤ 2 + 8 * k ∧ RowM wr w.heap.size bv l ∧ Blk wr w.heap.size 28 #[.int .i64 (s : Int), .slice AP np cP, .slice AI nI cI, .slice AR nR cR, .int .i64 lp] ∧ Below w.heap.size w wr)
  case atStart => exact ⟨0, _, Nat.zero_le _, rfl, rfl, by simp [propsL, Lib.join], by have := HD1.out; simp; omega, HMW1.out, HAW1.out, HBW1.out⟩
  case round =>
    obtain ⟨k, l, hk, rfl, hgk, hlq, hln, hm, ha, hb0⟩ := hrel
    subst hgk
    obtain ⟨g0, k0, rfl⟩ := hm.form
    have HLQ := Lib.hid hlq
    have HLN := Lib.hid hln
    have HMwr := Lib.hid hm
    have HAwr := Lib.hid ha
    have HBwr := Lib.hid hb0
    clear hlq hln hm ha hb0 HMW1 HAW1 HBW1
    obtain ⟨c0, c1, c2, c3, c4⟩ := five_of HAwr.out
    by_cases hlt : k < np
    · obtain ⟨p, hp⟩ : ∃ p, x.ps[k]? = some p := ⟨_, List.getElem?_eq_getElem (by rw [HN.out.1]; exact hlt)⟩
      obtain ⟨b, off, rfl, hb, hh0, hh1⟩ := HAT.out k p hp
      have hop := HOK.out.p p (List.mem_of_getElem? hp)
      have hps := propsL_snoc hp
      obtain ⟨kd, pa⟩ := p
      simp only at hh0 hh1
      obtain ⟨q, rfl⟩ : ∃ q : Nat, pa = q := ⟨pa.toNat, by have := hop.2.1; simp only at this; omega⟩
      have HDQ := Lib.hid (dec_len 4 q (by have := hop.2.2; simp only at this; omega))
      have HQ : Hid (q ≤ 2147483647) := Lib.hid (by have := hop.2.2; simp only at this; omega)
      obtain ⟨c, hc⟩ : ∃ c, UInt8.ofNat kd.toNat = c := ⟨_, rfl⟩
      have hkd := kind_u8 hop
      simp only [hc] at hkd
      have HKD := Lib.hid hkd
      have hpw : propW (kd, (q : Int)) = c :: dec q := by unfold propW; simp only [hc, Int.toNat_natCast]
      rw [hpw] at hps
      have hk0 : (0 : Int) ≤ (k : Int) := by omega
      have hk1 : (k : Int) < (np : Int) := by omega
      have hnq9 := HNQ.out
      clear hp hop hkd hpw hc
      by_cases hz : k = 0
      · have hz1 : ¬ (0 : Int) < (k : Int) := by omega
        have HTK : Hid ((dec s ++ [10]) ++ propsL (x.ps.take (k + 1)) = (l ++ [c]) ++ dec q) := Lib.hid (by rw [hps, HLQ.out, if_pos hz]; simp)
        clear hps hz
        go_upto_region 7 with (fail)
        clear c0 c1 c2 c3 c4
        obtain ⟨c0, c1, c2, c3, c4⟩ := five_of HAwr.out
        have s0 := (HBwr.out.cell (p := ⟨b, off + k * 2, none⟩) hb).trans hh0
        go_upto_region 8 with (at_builtin; refine wpList_append_M1 rfl (.tmp 23) (.tmp 30) rfl w.heap.size (.slice (some ⟨g0, 0, none⟩) l.length k0) l c ⟨wr.heap.size, 0, none⟩ 1 rfl (HMwr.out.alloc _) rfl (((Blk.new _ _ _).cell 0).trans (by rw [HKD.out]; rfl)) (by have := HBwr.out.size; first | (simp; done) | (simp; omega)) (by have := HLN.out; have := HNQ.out; first | omega | (simp; omega)) ?_; intro v7 w7 hm7 hg7; have HMw7 := Lib.hid hm7; have HAw7 := Lib.hid ((HAwr.out.alloc _).grown hg7 (fun e => HMwr.out.ne_blk HAwr.out (by decide) e.symm)); have HBw7 := Lib.hid ((HBwr.out.alloc HBwr.out.size _).grown hg7 (by have := HBwr.out.size; first | (simp; done) | (simp; omega)) (fun k hk => (HMwr.out.lt k hk).1)); clear hm7 hg7)
        clear c0 c1 c2 c3 c4 s0
        obtain ⟨c0, c1, c2, c3, c4⟩ := five_of HAw7.out
        have s1 := (HBw7.out.cell (p := ⟨b, off + k * 2 + 1, none⟩) hb).trans hh1
        go_wp2_with (first
          | (go_at_call 31; refine (HWH.out w7 q HQ.out).mono ?_; rintro e w8 ⟨rfl, rfl⟩)
          | (at_builtin; refine wpList_append_M rfl (.tmp 32) (.tmp 39) rfl w.heap.size v7 (l ++ [c]) (dec q) _ rfl rfl HMw7.out rfl HBw7.out.size (by have := HLN.out; have := HNQ.out; have := HDQ.out; first | omega | (simp; omega)) ?_; intro v9 w9 hm9 hg9; have HMw9 := Lib.hid hm9; have HAw9 := Lib.hid (HAw7.out.grown hg9 (fun e => HMw7.out.ne_blk HAw7.out (by decide) e.symm)); have HBw9 := Lib.hid (HBw7.out.grown hg9 HBw7.out.size (fun k hk => (HMw7.out.lt k hk).1)); clear hm9 hg9))
        go_roundg (np - (k + 1))
        case measure => omega
        case rel => exact ⟨k + 1, _, by omega, by go_num, rfl, HTK.out.symm, by have := HLN.out; have := HDQ.out; first | omega | (simp; omega), HMw9.out, HAw9.out, HBw9.out⟩

      · have hz1 : (0 : Int) < (k : Int) := by omega
        have HTK : Hid ((dec s ++ [10]) ++ propsL (x.ps.take (k + 1)) = ((l ++ [32]) ++ [c]) ++ dec q) := Lib.hid (by rw [hps, HLQ.out, if_neg hz]; simp)
        clear hps hz
        go_upto_region 7 with (at_builtin; refine wpList_append_M1 rfl (.tmp 20) (.tmp 21) rfl w.heap.size (.slice (some ⟨g0, 0, none⟩) l.length k0) l 32 ⟨wr.heap.size, 0, none⟩ 1 rfl (HMwr.out.alloc _) rfl (((Blk.new _ _ _).cell 0).trans rfl) (by have := HBwr.out.size; first | (simp; done) | (simp; omega)) (by have := HLN.out; have := HNQ.out; omega) ?_; intro v6 w6 hm6 hg6; have HMw6 := Lib.hid hm6; have HAw6 := Lib.hid ((HAwr.out.alloc _).grown hg6 (fun e => HMwr.out.ne_blk HAwr.out (by decide) e.symm)); have HBw6 := Lib.hid ((HBwr.out.alloc HBwr.out.size _).grown hg6 (by have := HBwr.out.size; first | (simp; done) | (simp; omega)) (fun k hk => (HMwr.out.lt k hk).1)); clear hm6 hg6)
        clear c0 c1 c2 c3 c4
        obtain ⟨c0, c1, c2, c3, c4⟩ := five_of HAw6.out
        have s0 := (HBw6.out.cell (p := ⟨b, off + k * 2, none⟩) hb).trans hh0
        go_upto_region 8 with (at_builtin; refine wpList_append_M1 rfl (.tmp 23) (.tmp 30) rfl w.heap.size v6 (l ++ [32]) c ⟨w6.heap.size, 0, none⟩ 1 rfl (HMw6.out.alloc _) rfl (((Blk.new _ _ _).cell 0).trans (by rw [HKD.out]; rfl)) (by have := HBw6.out.size; first | (simp; done) | (simp; omega)) (by have := HLN.out; have := HNQ.out; first | omega | (simp; omega)) ?_; intro v7 w7 hm7 hg7; have HMw7 := Lib.hid hm7; have HAw7 := Lib.hid ((HAw6.out.alloc _).grown hg7 (fun e => HMw6.out.ne_blk HAw6.out (by decide) e.symm)); have HBw7 := Lib.hid ((HBw6.out.alloc HBw6.out.size _).grown hg7 (by have := HBw6.out.size; first | (simp; done) | (simp; omega)) (fun k hk => (HMw6.out.lt k hk).1)); clear hm7 hg7)
        clear c0 c1 c2 c3 c4 s0
        obtain ⟨c0, c1, c2, c3, c4⟩ := five_of HAw7.out
        have s1 := (HBw7.out.cell (p := ⟨b, off + k * 2 + 1, none⟩) hb).trans hh1
        go_wp2_with (first
          | (go_at_call 31; refine (HWH.out w7 q HQ.out).mono ?_; rintro e w8 ⟨rfl, rfl⟩)
          | (at_builtin; refine wpList_append_M rfl (.tmp 32) (.tmp 39) rfl w.heap.size v7 ((l ++ [32]) ++ [c]) (dec q) _ rfl rfl HMw7.out rfl HBw7.out.size (by have := HLN.out; have := HNQ.out; have := HDQ.out; first | omega | (simp; omega)) ?_; intro v9 w9 hm9 hg9; have HMw9 := Lib.hid hm9; have HAw9 := Lib.hid (HAw7.out.grown hg9 (fun e => HMw7.out.ne_blk HAw7.out (by decide) e.symm)); have HBw9 := Lib.hid (HBw7.out.grown hg9 HBw7.out.size (fun k hk => (HMw7.out.lt k hk).1)); clear hm9 hg9))
        go_roundg (np - (k + 1))
        case measure => omega
        case rel => exact ⟨k + 1, _, by omega, by go_num, rfl, HTK.out.symm, by have := HLN.out; have := HDQ.out; first | omega | (simp; omega), HMw9.out, HAw9.out, HBw9.out⟩

    · have hk1 : ¬ (k : Int) < (np : Int) := by omega
      have hke : k = np := by omega
      have HL1 : Hid (l = (dec s ++ [10]) ++ propsL x.ps) := Lib.hid (by rw [HLQ.out, List.take_of_length_le (by rw [HN.out.1, hke]; exact Nat.le_refl _)])
      have hl0 : l.length ≤ 140000 := by have := HLN.out; have := HNQ.out; omega
      have HLL := Lib.hid hl0
      clear hl0 hke HLQ HLN
      go_upto_region 10 with (at_builtin; refine wpList_append_M1 rfl (.tmp 41) (.tmp 42) rfl w.heap.size (.slice (some ⟨g0, 0, none⟩) l.length k0) l 10 ⟨wr.heap.size, 0, none⟩ 1 rfl (HMwr.out.alloc _) rfl (((Blk.new _ _ _).cell 0).trans rfl) (by have := HBwr.out.size; first | (simp; done) | (simp; omega)) (by have := HLL.out; omega) ?_; intro v6 w6 hm6 hg6; have HMw6 := Lib.hid hm6; have HAw6 := Lib.hid ((HAwr.out.alloc _).grown hg6 (fun e => HMwr.out.ne_blk HAwr.out (by decide) e.symm)); have HBw6 := Lib.hid ((HBwr.out.alloc HBwr.out.size _).grown hg6 (by have := HBwr.out.size; first | (simp; done) | (simp; omega)) (fun k hk => (HMwr.out.lt k hk).1)); clear hm6 hg6)
      clear c0 c1 c2 c3 c4
      obtain ⟨c0, c1, c2, c3, c4⟩ := five_of HAw6.out
      by_cases hs1 : s = 1
      · have hs1z : ((s : Int) == (1 : Int)) = true := by simpa using (by omega : (s : Int) = 1)
        have htt := HOK.out.t (by rw [HST.out.1]; omega)
        have HTT := Lib.hid htt
        have hnr5 : nR ≤ 512 := by have := htt.2.2.1; have := HN.out.2; omega
        have HTX : Hid (textW x = ((l ++ [10]) ++ (bitsB x.tr.init ++ [10])) ++ rowsL x.tr.rows ++ loopL lp ++ [46, 10]) := Lib.hid (by
          unfold textW
          rw [HST.out.1, HL1.out, HST.out.2, if_pos (by omega : (s : Int) = 1)]
          simp [lineL])
        have hl10 : (⟨#[10]⟩ : ByteArray).size = 1 := rfl
        have hT1 := cat_strB (bitsB x.tr.init) [10]
        rw [show strB [10] = ⟨#[10]⟩ from rfl] at hT1
        have hsz1 : (strB (bitsB x.tr.init)).size = (bitsB x.tr.init).length := strB_size _
        rw [bits_length] at hsz1
        have hbb := HBT.out w6 _ _ HBw6.out HTI.out htt.1
        obtain ⟨T1, hT1e⟩ : ∃ T, strB (bitsB x.tr.init) = T := ⟨_, rfl⟩
        obtain ⟨T0, hT0e⟩ : ∃ T, strB (bitsB x.tr.init ++ [10]) = T := ⟨_, rfl⟩
        rw [hT1e] at hT1 hsz1 hbb
        rw [hT0e] at hT1
        have HT0 := Lib.hid hT0e
        have HBB := Lib.hid hbb
        have hnl : ¬ 9223372036854775807 < T1.size + 1 := by have := htt.1; omega
        clear hsz1 hbb hT1e hT0e htt hs1
        go_wp2_with (first
          | (go_at_call 32; refine HBB.out.mono ?_; rintro e w7 ⟨rfl, hb7⟩; have HMw7 := Lib.hid (HMw6.out.below hb7); have HAw7 := Lib.hid (Blk.below HAw6.out hb7 (Blk.lt HAw6.out)); have HBw7 := Lib.hid (bt HBw6.out (Nat.le_refl _) hb7); clear hb7)
          | (at_builtin; refine wpList_append_M rfl (.tmp 47) (.tmp 52) rfl w.heap.size v6 (l ++ [10]) (bitsB x.tr.init ++ [10]) T0 HT0.out rfl HMw7.out rfl HBw7.out.size (by have := HLL.out; have := HTT.out.1; simp [bits_length]; omega) ?_; intro v8 w8 hm8 hg8; have HMw8 := Lib.hid hm8; have HAw8 := Lib.hid (HAw7.out.grown hg8 (fun e => HMw7.out.ne_blk HAw7.out (by decide) e.symm)); have HBw8 := Lib.hid (HBw7.out.grown hg8 HBw7.out.size (fun k hk => (HMw7.out.lt k hk).1)); clear hm8 hg8))
        go_loopg [3, 5] nR (fun j bv iv wr => ∃ (k : Nat) (m : Bs), k ≤ nR ∧ iv = .int .i64 k ∧ j = nR - k ∧ m = ((l ++ [10]) ++ (bitsB x.tr.init ++ [10])) ++ rowsL (x.tr.rows.take k) ∧ m.length ≤ 160000 + 16385 * k ∧ RowM wr w.heap.size bv m ∧ Blk wr w.heap.size 28 #[.int .i64 (s : Int), .slice AP np cP, .slice AI nI cI, .slice AR nR cR, .int .i64 lp] ∧ Below w.heap.size w wr)
        case atStart => exact ⟨0, _, Nat.zero_le _, rfl, rfl, by simp [rowsL], by have := HLL.out; have := HTT.out.1; simp [bits_length]; omega, HMw8.out, HAw8.out, HBw8.out⟩
        case round =>
          obtain ⟨k, m, hk, rfl, hgk, hmq, hmn, hm, ha, hb0⟩ := hrel
          subst hgk
          obtain ⟨g0, k0, rfl⟩ := hm.form
          have HMQ := Lib.hid hmq
          have HMN := Lib.hid hmn
          have HMwq := Lib.hid hm
          have HAwq := Lib.hid ha
          have HBwq := Lib.hid hb0
          clear hmq hmn hm ha hb0 HMw8 HAw8 HBw8 c0 c1 c2 c3 c4
          obtain ⟨c0, c1, c2, c3, c4⟩ := five_of HAwq.out
          by_cases hlt : k < nR
          · obtain ⟨row, hz⟩ : ∃ row, x.tr.rows[k]? = some row := ⟨_, List.getElem?_eq_getElem (by rw [HN.out.2]; exact hlt)⟩
            obtain ⟨b, off, u, e, hb, hu, hru⟩ := HRR.out k row hz
            subst e
            have hcu := (HBwq.out.cell (p := ⟨b, off + k, none⟩) hb).trans hu
            have hk0 : (0 : Int) ≤ (k : Int) := by omega
            have hk1 : (k : Int) < (nR : Int) := by omega
            have hrl := HTT.out.2.1 row (List.mem_of_getElem? hz)
            have HTK : Hid (((l ++ [10]) ++ (bitsB x.tr.init ++ [10])) ++ rowsL (x.tr.rows.take (k + 1)) = m ++ (bitsB row ++ [10])) := Lib.hid (by rw [HMQ.out, rowsL_snoc hz]; simp)
            have hT1 := cat_strB (bitsB row) [10]
            rw [show strB [10] = ⟨#[10]⟩ from rfl] at hT1
            have hsz1 : (strB (bitsB row)).size = (bitsB row).length := strB_size _
            rw [bits_length] at hsz1
            have hbb := HBT.out _ u row HBwq.out hru hrl
            obtain ⟨T2, hT2e⟩ : ∃ T, strB (bitsB row) = T := ⟨_, rfl⟩
            obtain ⟨T3, hT3e⟩ : ∃ T, strB (bitsB row ++ [10]) = T := ⟨_, rfl⟩
            rw [hT2e] at hT1 hsz1 hbb
            rw [hT3e] at hT1
            have HT3 := Lib.hid hT3e
            have HBB2 := Lib.hid hbb
            have HRL := Lib.hid hrl
            have hnl2 : ¬ 9223372036854775807 < T2.size + 1 := by omega
            clear hsz1 hbb hT2e hT3e hrl hru hu hz
            go_wp2_with (first
              | (go_at_call 32; refine HBB2.out.mono ?_; rintro e w17 ⟨rfl, hb7⟩; have HMw17 := Lib.hid (HMwq.out.below hb7); have HAw17 := Lib.hid (Blk.below HAwq.out hb7 (Blk.lt HAwq.out)); have HBw17 := Lib.hid (bt HBwq.out (Nat.le_refl _) hb7); clear hb7)
              | (at_builtin; refine wpList_append_M rfl (.tmp 62) (.tmp 70) rfl w.heap.size (.slice (some ⟨g0, 0, none⟩) m.length k0) m (bitsB row ++ [10]) T3 HT3.out rfl HMw17.out rfl HBw17.out.size (by have := HMN.out; have := HRL.out; have := HTT.out.2.2.1; have := HN.out.2; simp [bits_length]; omega) ?_; intro v18 w18 hm18 hg18; have HMw18 := Lib.hid hm18; have HAw18 := Lib.hid (HAw17.out.grown hg18 (fun e => HMw17.out.ne_blk HAw17.out (by decide) e.symm)); have HBw18 := Lib.hid (HBw17.out.grown hg18 HBw17.out.size (fun k hk => (HMw17.out.lt k hk).1)); clear hm18 hg18))
            go_roundg (nR - (k + 1))
            case measure => omega
            case rel => exact ⟨k + 1, _, by omega, by go_num, rfl, HTK.out.symm, by have := HMN.out; have := HRL.out; simp [bits_length]; omega, HMw18.out, HAw18.out, HBw18.out⟩
          · have hk1 : ¬ (k : Int) < (nR : Int) := by omega
            have hke : k = nR := by omega
            have HM1 : Hid (((l ++ [10]) ++ (bitsB x.tr.init ++ [10])) ++ rowsL x.tr.rows = m) := Lib.hid (by rw [HMQ.out, List.take_of_length_le (by rw [HN.out.2, hke]; exact Nat.le_refl _)])
            have HLM : Hid (m.length ≤ 9000000) := Lib.hid (by have := HMN.out; have := HTT.out.2.2.1; have := HN.out.2; omega)
            clear hke HMQ HMN
            rw [HM1.out] at HTX
            have hlb := HTT.out.2.2.2
            rw [HST.out.2] at hlb
            by_cases hq : lp = -1
            · have hqz : ¬ (0 : Int) ≤ lp := by omega
              have HTY : Hid (textW x = m ++ [46, 10]) := Lib.hid (by rw [HTX.out]; unfold loopL; rw [if_pos hq]; simp)
              clear hq hlb
              go_wp2_with (at_builtin; refine wpList_append_M rfl (.tmp 84) (.const (.string ⟨#[46, 10]⟩)) rfl w.heap.size (.slice (some ⟨g0, 0, none⟩) m.length k0) m [46, 10] ⟨#[46, 10]⟩ rfl rfl HMwq.out rfl HBwq.out.size (by have := HLM.out; simp; omega) ?_; intro v19 w19 hm19 hg19; have HMw19 := Lib.hid hm19; have HAw19 := Lib.hid (HAwq.out.grown hg19 (fun e => HMwq.out.ne_blk HAwq.out (by decide) e.symm)); have HBw19 := Lib.hid (HBwq.out.grown hg19 HBwq.out.size (fun k hk => (HMwq.out.lt k hk).1)); clear hm19 hg19)
              go_ret
              exact ⟨_, rfl, by rw [HTY.out]; exact HMw19.out, HBw19.out⟩
            · obtain ⟨q, rfl⟩ : ∃ q : Nat, lp = q := ⟨lp.toNat, by omega⟩
              have hqz : (0 : Int) ≤ (q : Int) := by omega
              have hdq := dec_len 4 q (by omega)
              have HTY : Hid (textW x = (m ++ (loopW ++ dec q ++ [10])) ++ [46, 10]) := Lib.hid (by rw [HTX.out]; unfold loopL; rw [if_neg hq]; simp [lineL])
              have hT1 := cat_strB loopW (dec q)
              rw [show strB loopW = ⟨#[99, 32, 108, 111, 111, 112, 32]⟩ from rfl] at hT1
              have hT2 := cat_strB (loopW ++ dec q) [10]
              rw [show strB [10] = ⟨#[10]⟩ from rfl] at hT2
              have hz1 : (strB (dec q)).size = (dec q).length := strB_size _
              have hz2 : (strB (loopW ++ dec q)).size = (loopW ++ dec q).length := strB_size _
              have hlw : (⟨#[99, 32, 108, 111, 111, 112, 32]⟩ : ByteArray).size = 7 := rfl
              have hz3 : (loopW ++ dec q).length ≤ 12 := by rw [List.length_append]; have : loopW.length = 7 := rfl; omega
              obtain ⟨T4, hT4⟩ : ∃ T, strB (dec q) = T := ⟨_, rfl⟩
              obtain ⟨T5, hT5⟩ : ∃ T, strB (loopW ++ dec q) = T := ⟨_, rfl⟩
              obtain ⟨T6, hT6⟩ : ∃ T, strB (loopW ++ dec q ++ [10]) = T := ⟨_, rfl⟩
              have HWS := Lib.hid (fun wx => HWH.out wx q (by omega))
              rw [hT4] at HWS hT1 hz1
              rw [hT5] at hT1 hT2 hz2
              rw [hT6] at hT2
              have HT6 := Lib.hid hT6
              have hn1 : ¬ 9223372036854775807 < 7 + T4.size := by omega
              have hn2 : ¬ 9223372036854775807 < T5.size + 1 := by omega
              have HZ3 := Lib.hid hz3
              clear hz1 hz2 hz3 hT4 hT5 hT6 hdq hlb hq
              go_wp2_with (first
                | (go_at_call 31; refine (HWS.out _).mono ?_; rintro e w16 ⟨rfl, rfl⟩)
                | (at_builtin; refine wpList_append_M rfl (.tmp 76) (.tmp 82) rfl w.heap.size (.slice (some ⟨g0, 0, none⟩) m.length k0) m (loopW ++ dec q ++ [10]) T6 HT6.out rfl HMwq.out rfl HBwq.out.size (by have := HLM.out; have := HZ3.out; rw [List.length_append]; simp only [List.length_cons, List.length_nil]; omega) ?_; intro v18 w18 hm18 hg18; have HMw18 := Lib.hid hm18; have HAw18 := Lib.hid (HAwq.out.grown hg18 (fun e => HMwq.out.ne_blk HAwq.out (by decide) e.symm)); have HBw18 := Lib.hid (HBwq.out.grown hg18 HBwq.out.size (fun k hk => (HMwq.out.lt k hk).1)); clear hm18 hg18)
                | (at_builtin; refine wpList_append_M rfl (.tmp 84) (.const (.string ⟨#[46, 10]⟩)) rfl w.heap.size v18 (m ++ (loopW ++ dec q ++ [10])) [46, 10] ⟨#[46, 10]⟩ rfl rfl HMw18.out rfl HBw18.out.size (by have := HLM.out; have := HZ3.out; rw [List.length_append, List.length_append]; simp only [List.length_cons, List.length_nil]; omega) ?_; intro v19 w19 hm19 hg19; have HMw19 := Lib.hid hm19; have HAw19 := Lib.hid (HAw18.out.grown hg19 (fun e => HMw18.out.ne_blk HAw18.out (by decide) e.symm)); have HBw19 := Lib.hid (HBw18.out.grown hg19 HBw18.out.size (fun k hk => (HMw18.out.lt k hk).1)); clear hm19 hg19))
              go_ret
              exact ⟨_, rfl, by rw [HTY.out]; exact HMw19.out, HBw19.out⟩
      · have hs1z : ((s : Int) == (1 : Int)) = false := by simpa using (by omega : ¬ (s : Int) = 1)
        have HTX : Hid (textW x = (l ++ [10]) ++ [46, 10]) := Lib.hid (by
          unfold textW
          rw [HST.out.1, HL1.out, if_neg (by omega)]
          simp [lineL])
        clear hs1
        go_wp2_with (at_builtin; refine wpList_append_M rfl (.tmp 84) (.const (.string ⟨#[46, 10]⟩)) rfl w.heap.size v6 (l ++ [10]) [46, 10] ⟨#[46, 10]⟩ rfl rfl HMw6.out rfl HBw6.out.size (by have := HLL.out; simp; omega) ?_; intro v9 w9 hm9 hg9; have HMw9 := Lib.hid hm9; have HAw9 := Lib.hid (HAw6.out.grown hg9 (fun e => HMw6.out.ne_blk HAw6.out (by decide) e.symm)); have HBw9 := Lib.hid (HBw6.out.grown hg9 HBw6.out.size (fun k hk => (HMw6.out.lt k hk).1)); clear hm9 hg9)
        go_ret
        exact ⟨_, rfl, by rw [HTX.out]; exact HMw9.out, HBw9.out⟩
set_option maxHeartbeats 4000000 in
set_option maxRecDepth 100000 in
theorem rPrintW_any (w : World) (x : Wit) (vp vi vr : Value) (h : WtIn w x vp vi vr) (L n : Int) :
    Calls Tryd.prog 8 #[.agg #[.int .i64 x.st, vp, vi, vr, .int .i64 x.tr.loop], .int .i64 L, .int .i64 n] w fun e w' => e = .returned (.tuple #[.string (strB (prW x L n).1), .int .i64 (prW x L n).2]) ∧ Below w.heap.size w w' := by
  have HCK := Lib.hid (fun (wx : World) (hb : Below w.heap.size w wx) => rCheckW_any wx x vp vi vr (h.below hb) L n)
  have HTX := Lib.hid (fun (wx : World) (hb : Below w.heap.size w wx) (hx : WtOk x) => rTextW_any wx x vp vi vr (h.below hb) hx)
  obtain ⟨AP, cP, eP⟩ := slP_form h.p
  obtain ⟨AR, cR, eR, _, _⟩ := h.t.r.at_
  obtain ⟨AI, nI, cI, eI⟩ := slO_form h.t.i
  simp only at eR eI
  subst eP eR eI
  have HOK : Hid (witE x L n = 0 → WtOk x) := Lib.hid (fun hh => (witE_ok hh).1)
  obtain ⟨nR, hnR⟩ : ∃ k, x.tr.rows.length = k := ⟨_, rfl⟩
  obtain ⟨np, hnp⟩ : ∃ k, x.ps.length = k := ⟨_, rfl⟩
  obtain ⟨st, hst⟩ : ∃ k, x.st = k := ⟨_, rfl⟩
  obtain ⟨lp, hlp⟩ : ∃ k, x.tr.loop = k := ⟨_, rfl⟩
  obtain ⟨e0, he0⟩ : ∃ k, witE x L n = k := ⟨_, rfl⟩
  obtain ⟨tx, htx⟩ : ∃ k, textW x = k := ⟨_, rfl⟩
  obtain ⟨T, hT⟩ : ∃ T, strB tx = T := ⟨_, rfl⟩
  obtain ⟨tn, htn⟩ : ∃ k, tx.length = k := ⟨_, rfl⟩
  obtain ⟨PR, hPR⟩ : ∃ y, prW x L n = y := ⟨_, rfl⟩
  rw [hPR]
  unfold prW at hPR
  rw [he0] at HCK HOK hPR
  rw [htx] at HTX hPR
  rw [htn] at hPR
  have HPR := Lib.hid hPR
  clear hPR
  have HTT := Lib.hid (And.intro hT htn)
  rw [hst, hlp, hnR, hnp] at HCK HTX ⊢
  have HA := Lib.hid (Blk.new w 28 #[.int .i64 st, .slice AP np cP, .slice AI nI cI, .slice AR nR cR, .int .i64 lp])
  have HB : Hid (Below w.heap.size w (w.alloc (.cells #[.int .i64 st, .slice AP np cP, .slice AI nI cI, .slice AR nR cR, .int .i64 lp] 28))) := Lib.hid ((Below.refl _ _).alloc (Nat.le_refl _) _)
  clear h hnR hnp hst hlp he0 htx hT htn
  go_enter Tryd.func8, Tryd.ntmps8
  go_upto_region 1 with (fail)
  generalize w.alloc (.cells #[.int .i64 st, .slice AP np cP, .slice AI nI cI, .slice AR nR cR, .int .i64 lp] 28) = X at HA HB ⊢
  obtain ⟨c0, c1, c2, c3, c4⟩ := five_of HA.out
  go_upto_region 2 with (go_at_call 10; refine (HCK.out X HB.out).mono ?_; rintro e w2 ⟨rfl, hb2⟩; have HB2 := Lib.hid (bt HB.out (Nat.le_refl _) hb2); have HA2 := Lib.hid (Blk.below HA.out hb2 (Blk.lt HA.out)); clear hb2)
  clear c0 c1 c2 c3 c4
  by_cases h0 : e0 = 0
  · have hz : (e0 != (0 : Int)) = false := by simpa using h0
    have HX := Lib.hid (HTX.out w2 HB2.out (HOK.out h0))
    obtain ⟨c0, c1, c2, c3, c4⟩ := five_of HA2.out
    by_cases hl : 262144 < tn
    · have hlz : (262144 : Int) < (tn : Int) := by omega
      have HF : Hid (PR = ([], 2)) := Lib.hid (by rw [← HPR.out, if_neg (by omega), if_pos hl])
      clear h0 hl
      go_wp2_with (go_at_call 16; refine HX.out.mono ?_; rintro e w3 ⟨v, rfl, hm, hb3⟩; have HB3 := Lib.hid (bt HB2.out (Nat.le_refl _) hb3); obtain ⟨g0, k0, rfl⟩ := hm.form; rw [HTT.out.2]; clear hb3 hm)
      go_ret2
      exact ⟨by rw [HF.out]; rfl, HB3.out⟩
    · have hlz : ¬ (262144 : Int) < (tn : Int) := by omega
      have HF : Hid (PR = (tx, 0)) := Lib.hid (by rw [← HPR.out, if_neg (by omega), if_neg hl])
      clear h0 hl
      go_wp2_with (go_at_call 16; refine HX.out.mono ?_; rintro e w3 ⟨v, rfl, hm, hb3⟩; have HB3 := Lib.hid (bt HB2.out (Nat.le_refl _) hb3); obtain ⟨g0, k0, rfl⟩ := hm.form; have hcv := hm.text; rw [HTT.out.2, HTT.out.1] at hcv; rw [HTT.out.2]; clear hb3 hm)
      go_ret2
      exact ⟨by rw [HF.out, ← HTT.out.1]; rfl, HB3.out⟩
  · have hz : (e0 != (0 : Int)) = true := by simpa using h0
    have HF : Hid (PR = ([], e0)) := Lib.hid (by rw [← HPR.out, if_pos h0])
    clear h0
    go_wp2
    go_ret2
    exact ⟨by rw [HF.out]; rfl, HB2.out⟩
end Go.Proofs.YtjbglgmbnjdhcaaDoor

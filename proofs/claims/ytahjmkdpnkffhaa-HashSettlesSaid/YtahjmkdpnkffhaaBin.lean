/- The contract of IsBinary. -/
import Derived.Test.YtahjmkdpnkffhaaSetP
import Derived.Test.YtahjmkdpnkffhaaRenB
import Derived.Test.YtahjmkdpnkffhaaRenA
import Derived.Laws.EntriesVeiled
import Derived.Deep.LoopGhost
import Derived.Deep.RegionWith
namespace Go.Proofs.Ytahjmkdpnkffhaa
open Go.RowKit

set_option maxHeartbeats 1000000 in
set_option maxRecDepth 100000 in
theorem follows_any (w : World) (bl : Nat) (last l : Int) (h : Blk w bl 3 #[.int .i64 last]) (hL : 0 ≤ last) (hL2 : last ≤ 1000000) :
    Calls Try.prog 90 #[.int .i64 l, .pointer (some ⟨bl, 0, none⟩)] w fun e w' => e = .returned (.bool (decide (l = last + 2))) ∧ w' = w.setCell ⟨bl, 0, none⟩ (.int .i64 (last + 2)) := by
  have c0 := h.cell 0
  have f0 := Blk.frozen h 0
  have hs := Blk.set_ h 0 (.int .i64 (last + 2))
  have d0 := hs.cell 0
  simp only [List.getElem?_toArray, List.getElem?_cons_zero] at c0
  simp at d0
  clear h hs
  go_enter Try.func90, Try.ntmps90
  go_wp2
  go_ret
  refine ⟨?_, rfl⟩
  first
    | rfl
    | (apply ret_bool; simp [eq_comm])
    | (apply ret_bool; apply decide_eq_decide.2; omega)

theorem follow_at {xs : List Int} {q : Nat} {l : Int} (hl : xs[q]? = some l) (last : Int) : follow last (xs.drop q) = (decide (l = last + 2) && follow (last + 2) (xs.drop (q + 1))) := by rw [drop_one hl]; rfl
theorem andB_at {xs : List Tri} {q : Nat} {z : Tri} (hl : xs[q]? = some z) (last : Int) : andB last (xs.drop q) = (decide (z.1 = last + 2) && (decide (z.2.1 < z.1) && (decide (z.2.2 ≤ z.2.1) && andB (last + 2) (xs.drop (q + 1))))) := by rw [drop_one hl]; rfl

structure BinS (w0 wr : World) (bx bl : Nat) (cs : Array Value) (last : Int) : Prop where
  below : Below w0.heap.size w0 wr
  box : Blk wr bx 51 cs
  last : Blk wr bl 3 #[.int .i64 last]
theorem BinS.alloc {w0 wr : World} {bx bl : Nat} {cs : Array Value} {last : Int} (h : BinS w0 wr bx bl cs last) (o : Obj) : BinS w0 (wr.alloc o) bx bl cs last := ⟨h.below.alloc h.below.size o, h.box.alloc o, h.last.alloc o⟩
theorem BinS.drew {w0 wr : World} {bx bl : Nat} {cs : Array Value} {last : Int} (h : BinS w0 wr bx bl cs last) : BinS w0 wr.drew bx bl cs last := ⟨h.below.drew, h.box.drew, h.last.drew⟩
theorem BinS.step {w0 wr : World} {bx bl : Nat} {cs : Array Value} {last : Int} (h : BinS w0 wr bx bl cs last) (hB : w0.heap.size ≤ bl) (hne : bx ≠ bl) : BinS w0 (wr.setCell ⟨bl, 0, none⟩ (.int .i64 (last + 2))) bx bl cs (last + 2) :=
  ⟨h.below.setCell hB _, Blk.far h.box (by simpa using hne) _, by simpa using Blk.set_ h.last 0 (.int .i64 (last + 2))⟩

set_option maxHeartbeats 4000000 in
set_option maxRecDepth 100000 in
theorem IsBinary_ok (w : World) (V : CV) (C : Circ) (h : C.In w V) (ok : C.Ok) (hz : (checkR C).2 = 0) :
    Calls Try.prog 32 #[V.val C.max] w fun e w' => Below w.heap.size w w' ∧ e = .returned (.tuple #[.bool (binB C), .int .i64 0]) := by
  have HB := Lib.hid ((Below.refl w.heap.size w).alloc (Nat.le_refl _) (.cells (V.cells C.max) 51))
  have hin := h.below HB.out
  have hck := Check_any _ V C hin ok
  have HRT := Lib.hid (right_of hz)
  have hbin : binB C = (follow 0 C.inputs && (follow (2 * C.inputs.length) (C.latches.map (·.1)) && (andB (2 * ((C.inputs.length : Int) + C.latches.length)) C.ands && decide (2 * ((C.inputs.length : Int) + C.latches.length + C.ands.length) = 2 * C.max)))) := rfl
  obtain ⟨m, hmm⟩ : ∃ m, C.max = m := ⟨_, rfl⟩
  have HMM := Lib.hid hmm
  obtain ⟨AI, cI, eI, _, _, rI⟩ := h.i
  obtain ⟨AL, cL, eL, _, _, rL⟩ := h.l
  obtain ⟨AA, cA, eA, _, _, rA⟩ := h.a
  obtain ⟨Vi, Vl, Vo, Vb, Vc, Vj, Vf, Va, Vs, Vt⟩ := V
  simp only at eI eL eA
  subst eI eL eA
  rw [hz, hmm] at hck
  rw [hmm] at hin HB hbin
  obtain ⟨fst, hfst⟩ : ∃ a, (checkR C).1 = a := ⟨_, rfl⟩
  rw [hfst] at hck
  have HCK := Lib.hid hck
  rw [hmm]
  have HRI := Lib.hid rI
  have HRL := Lib.hid rL
  have HRA := Lib.hid rA
  generalize hBB : binB C = BB at *
  have hm0 := HRT.out.m0
  have hm1 := HRT.out.m1
  rw [hmm] at hm0 hm1
  have hsI := HRT.out.ni
  have hsL := HRT.out.nl
  have hsA := HRT.out.na
  generalize hnI : C.inputs.length = nI at *
  generalize hnL : C.latches.length = nL at *
  generalize hnA : C.ands.length = nA at *
  have HBIN := Lib.hid hbin
  have HNI := Lib.hid hnI
  have HNL := Lib.hid hnL
  have HNA := Lib.hid hnA
  clear hck hin h ok hz hmm hfst rI rL rA hbin hBB hnI hnL hnA
  go_enter Try.func32, Try.ntmps32
  go_wp2_with (go_at_call 58; go_loud (refine HCK.out.mono ?_; rintro e w1 ⟨rfl, hb1⟩; have HB1 := Lib.hid hb1; have hbx0 : Blk w1 w.heap.size 51 #[.int .i64 m, .slice AI nI cI, .slice AL nL cL, Vo, Vb, Vc, Vj, Vf, .slice AA nA cA, Vs, Vt] := (Blk.new w _ _).below hb1 (by simp); have hbx1 : Blk (w1.alloc (.cells #[.int .i64 0] 3)) w.heap.size 51 #[.int .i64 m, .slice AI nI cI, .slice AL nL cL, Vo, Vb, Vc, Vj, Vf, .slice AA nA cA, Vs, Vt] := hbx0.alloc _; have hbw : Below w.heap.size w w1 := HB.out.trans (hb1.mono (by simp)); have HS0 : Hid (BinS w (w1.alloc (.cells #[.int .i64 0] 3)) w.heap.size w1.heap.size #[.int .i64 m, .slice AI nI cI, .slice AL nL cL, Vo, Vb, Vc, Vj, Vf, .slice AA nA cA, Vs, Vt] 0) := Lib.hid ⟨hbw.alloc hbw.size _, hbx1, Blk.new w1 _ _⟩; obtain ⟨c0, c1, c2, c3, c4, c5, c6, c7, c8, c9, c10⟩ := box_of hbx1; clear hb1 hbx0 hbx1 hbw))
  have HW1 : Hid (w.heap.size + 1 ≤ w1.heap.size) := Lib.hid (by have := HB1.out.size; simpa using this)
  clear c0 c1 c2 c3 c4 c5 c6 c7 c8 c9 c10
  go_loopg [26] nI (fun k j wx => ∃ q : Nat, q ≤ nI ∧ k = nI - q ∧ j = .int .i64 q ∧ BinS w wx w.heap.size w1.heap.size #[.int .i64 m, .slice AI nI cI, .slice AL nL cL, Vo, Vb, Vc, Vj, Vf, .slice AA nA cA, Vs, Vt] (2 * q) ∧ follow 0 C.inputs = follow (2 * q) (C.inputs.drop q))
  case atStart => exact ⟨0, Nat.zero_le _, rfl, rfl, HS0.out, rfl⟩
  case round =>
    obtain ⟨q, hq, hgk, rfl, hst, hfo⟩ := hrel
    subst hgk
    have HST := Lib.hid hst
    have HFO := Lib.hid hfo
    by_cases hlt : q < nI
    · obtain ⟨l, hl⟩ : ∃ l, C.inputs[q]? = some l := ⟨_, List.getElem?_eq_getElem (by rw [HNI.out]; exact hlt)⟩
      obtain ⟨b, off, e, hb, hcell⟩ := HRI.out q l hl
      subst e
      have h0 := (HST.out.below.cell (p := ⟨b, off + (q * 1 + 0), none⟩) hb).trans (hcell 0 _ rfl)
      simp only [Nat.mul_one, Nat.add_zero] at h0
      have hc1 := follows_any wr w1.heap.size (2 * q) l hst.last (by omega) (by omega)
      have HC1 := Lib.hid hc1
      have HL := Lib.hid hl
      clear hst hfo hcell hc1 hl
      by_cases hf : l = 2 * (q : Int) + 2
      · have HF := Lib.hid hf
        have hdec : decide (l = 2 * (q : Int) + 2) = true := by simpa using hf
        rw [hdec] at HC1
        clear hf hdec
        go_wp2_with (go_at_call 90; refine HC1.out.mono ?_; rintro e w5 ⟨rfl, rfl⟩)
        go_roundg (nI - (q + 1))
        case measure => omega
        case rel =>
          refine ⟨q + 1, by omega, rfl, by go_num, ?_, ?_⟩
          · have := HST.out.step (by have := HW1.out; omega) (by have := HW1.out; omega)
            rw [show (2 : Int) * ((q + 1 : Nat) : Int) = 2 * (q : Int) + 2 by push_cast; omega]
            exact this
          · rw [HFO.out, follow_at HL.out, show (2 : Int) * ((q + 1 : Nat) : Int) = 2 * (q : Int) + 2 by push_cast; omega]
            simp [HF.out]
      · have hdec : decide (l = 2 * (q : Int) + 2) = false := by simpa using hf
        rw [hdec] at HC1
        have HBF : Hid (BB = false) := Lib.hid (by rw [HBIN.out, HFO.out, follow_at HL.out, hdec]; rfl)
        clear hf hdec
        go_wp2_with (go_at_call 90; refine HC1.out.mono ?_; rintro e w5 ⟨rfl, rfl⟩)
        go_ret2
        exact ⟨(HST.out.step (by have := HW1.out; omega) (by have := HW1.out; omega)).below, by rw [HBF.out]; rfl⟩
    · have hqe : nI = q := by omega
      subst hqe
      have hx := hst.box
      obtain ⟨c0, c1, c2, c3, c4, c5, c6, c7, c8, c9, c10⟩ := box_of hx
      have HFI : Hid (follow 0 C.inputs = true) := Lib.hid (by rw [hfo, List.drop_eq_nil_of_le (by rw [HNI.out]; exact Nat.le_refl _)]; rfl)
      clear hst hfo hlt hq hx
      go_wp2
      clear c0 c1 c2 c3 c4 c5 c6 c7 c8 c9 c10
      go_loopg [38] nL (fun k j wx => ∃ q : Nat, q ≤ nL ∧ k = nL - q ∧ j = .int .i64 q ∧ BinS w wx w.heap.size w1.heap.size #[.int .i64 m, .slice AI nI cI, .slice AL nL cL, Vo, Vb, Vc, Vj, Vf, .slice AA nA cA, Vs, Vt] (2 * ((nI : Int) + q)) ∧ follow (2 * (nI : Int)) (C.latches.map (·.1)) = follow (2 * ((nI : Int) + q)) ((C.latches.map (·.1)).drop q))
      case atStart => exact ⟨0, Nat.zero_le _, rfl, rfl, by simpa using HST.out, by simp⟩
      case round =>
        obtain ⟨q, hq, hgk, rfl, hst, hfo⟩ := hrel
        subst hgk
        have HST := Lib.hid hst
        have HFO := Lib.hid hfo
        by_cases hlt : q < nL
        · obtain ⟨z, hz⟩ : ∃ z, C.latches[q]? = some z := ⟨_, List.getElem?_eq_getElem (by rw [HNL.out]; exact hlt)⟩
          obtain ⟨b, off, e, hb, hcell⟩ := HRL.out q z hz
          subst e
          have h0 := (HST.out.below.cell (p := ⟨b, off + (q * 3 + 0), none⟩) hb).trans (hcell 0 _ rfl)
          have h1 := (HST.out.below.cell (p := ⟨b, off + (q * 3 + 1), none⟩) hb).trans (hcell 1 _ rfl)
          have h2 := (HST.out.below.cell (p := ⟨b, off + (q * 3 + 2), none⟩) hb).trans (hcell 2 _ rfl)
          simp only [Nat.add_zero, ← Nat.add_assoc] at h0 h1 h2
          have hl : (C.latches.map (·.1))[q]? = some z.1 := by rw [List.getElem?_map, hz]; rfl
          obtain ⟨l, z1, z2⟩ := z
          simp only at h0 h1 h2 hl
          have hc1 := follows_any (wr.alloc (.cells #[.int .i64 l, .int .i64 z1, .int .i64 z2] 114)) w1.heap.size (2 * ((nI : Int) + q)) l (hst.last.alloc _) (by omega) (by omega)
          have HC1 := Lib.hid hc1
          have HL := Lib.hid hl
          clear hst hfo hcell hc1 hl hz
          by_cases hf : l = 2 * ((nI : Int) + (q : Int)) + 2
          · have HF := Lib.hid hf
            have hdec : decide (l = 2 * ((nI : Int) + (q : Int)) + 2) = true := by simpa using hf
            rw [hdec] at HC1
            clear hf hdec
            go_wp2_with (go_at_call 90; refine HC1.out.mono ?_; rintro e w5 ⟨rfl, rfl⟩)
            go_roundg (nL - (q + 1))
            case measure => omega
            case rel =>
              refine ⟨q + 1, by omega, rfl, by go_num, ?_, ?_⟩
              · have := (HST.out.alloc (.cells #[.int .i64 l, .int .i64 z1, .int .i64 z2] 114)).step (by have := HW1.out; omega) (by have := HW1.out; omega)
                rw [show (2 : Int) * ((nI : Int) + ((q + 1 : Nat) : Int)) = 2 * ((nI : Int) + (q : Int)) + 2 by push_cast; omega]
                exact this
              · rw [HFO.out, follow_at HL.out, show (2 : Int) * ((nI : Int) + ((q + 1 : Nat) : Int)) = 2 * ((nI : Int) + (q : Int)) + 2 by push_cast; omega]
                simp [HF.out]
          · have hdec : decide (l = 2 * ((nI : Int) + (q : Int)) + 2) = false := by simpa using hf
            rw [hdec] at HC1
            have HBF : Hid (BB = false) := Lib.hid (by rw [HBIN.out, HFO.out, follow_at HL.out, hdec]; simp)
            clear hf hdec
            go_wp2_with (go_at_call 90; refine HC1.out.mono ?_; rintro e w5 ⟨rfl, rfl⟩)
            go_ret2
            exact ⟨((HST.out.alloc (.cells #[.int .i64 l, .int .i64 z1, .int .i64 z2] 114)).step (by have := HW1.out; omega) (by have := HW1.out; omega)).below, by rw [HBF.out]; rfl⟩
        · have hqe : nL = q := by omega
          subst hqe
          have hx := hst.box
          obtain ⟨c0, c1, c2, c3, c4, c5, c6, c7, c8, c9, c10⟩ := box_of hx
          have HFL : Hid (follow (2 * (nI : Int)) (C.latches.map (·.1)) = true) := Lib.hid (by rw [hfo, List.drop_eq_nil_of_le (by rw [List.length_map, HNL.out]; exact Nat.le_refl _)]; rfl)
          clear hst hfo hlt hq hx
          go_wp2
          clear c0 c1 c2 c3 c4 c5 c6 c7 c8 c9 c10
          go_loopg [51] nA (fun k j wx => ∃ q : Nat, q ≤ nA ∧ k = nA - q ∧ j = .int .i64 q ∧ BinS w wx w.heap.size w1.heap.size #[.int .i64 m, .slice AI nI cI, .slice AL nL cL, Vo, Vb, Vc, Vj, Vf, .slice AA nA cA, Vs, Vt] (2 * ((nI : Int) + nL + q)) ∧ andB (2 * ((nI : Int) + nL)) C.ands = andB (2 * ((nI : Int) + nL + q)) (C.ands.drop q))
          case atStart => exact ⟨0, Nat.zero_le _, rfl, rfl, by simpa using HST.out, by simp⟩
          case round =>
            obtain ⟨q, hq, hgk, rfl, hst, hfo⟩ := hrel
            subst hgk
            have HST := Lib.hid hst
            have HFO := Lib.hid hfo
            by_cases hlt : q < nA
            · obtain ⟨z, hz⟩ : ∃ z, C.ands[q]? = some z := ⟨_, List.getElem?_eq_getElem (by rw [HNA.out]; exact hlt)⟩
              obtain ⟨b, off, e, hb, hcell⟩ := HRA.out q z hz
              subst e
              have h0 := (HST.out.below.cell (p := ⟨b, off + (q * 3 + 0), none⟩) hb).trans (hcell 0 _ rfl)
              have h1 := (HST.out.below.cell (p := ⟨b, off + (q * 3 + 1), none⟩) hb).trans (hcell 1 _ rfl)
              have h2 := (HST.out.below.cell (p := ⟨b, off + (q * 3 + 2), none⟩) hb).trans (hcell 2 _ rfl)
              simp only [Nat.add_zero, ← Nat.add_assoc] at h0 h1 h2
              obtain ⟨l, z1, z2⟩ := z
              simp only at h0 h1 h2
              have HA0 : Hid (BinS w ((wr.alloc (.cells #[.int .i64 l, .int .i64 z1, .int .i64 z2] 43)).setCell ⟨w1.heap.size, 0, none⟩ (.int .i64 (2 * ((nI : Int) + nL + q) + 2))) w.heap.size w1.heap.size #[.int .i64 m, .slice AI nI cI, .slice AL nL cL, Vo, Vb, Vc, Vj, Vf, .slice (some ⟨b, off, none⟩) nA cA, Vs, Vt] (2 * ((nI : Int) + nL + q) + 2)) := Lib.hid ((HST.out.alloc (.cells #[.int .i64 l, .int .i64 z1, .int .i64 z2] 43)).step (by have := HW1.out; omega) (by have := HW1.out; omega))
              have hbz : Blk ((wr.alloc (.cells #[.int .i64 l, .int .i64 z1, .int .i64 z2] 43)).setCell ⟨w1.heap.size, 0, none⟩ (.int .i64 (2 * ((nI : Int) + nL + q) + 2))) wr.heap.size 43 #[.int .i64 l, .int .i64 z1, .int .i64 z2] := Blk.far (Blk.new wr _ _) (by have := hst.last.lt; simp; omega) _
              have k0 := hbz.cell 0
              have k1 := hbz.cell 1
              have k2 := hbz.cell 2
              simp only [List.getElem?_toArray, List.getElem?_cons_zero, List.getElem?_cons_succ] at k0 k1 k2
              have hc1 := follows_any (wr.alloc (.cells #[.int .i64 l, .int .i64 z1, .int .i64 z2] 43)) w1.heap.size (2 * ((nI : Int) + nL + q)) l (hst.last.alloc _) (by omega) (by omega)
              have HC1 := Lib.hid hc1
              have HL := Lib.hid hz
              clear hst hfo hcell hc1 hz hbz
              by_cases hf : l = 2 * ((nI : Int) + nL + (q : Int)) + 2
              · have HF := Lib.hid hf
                have hdec : decide (l = 2 * ((nI : Int) + nL + (q : Int)) + 2) = true := by simpa using hf
                rw [hdec] at HC1
                clear hf hdec
                by_cases hg : l ≤ z1
                · have HBF : Hid (BB = false) := Lib.hid (by
                    rw [HBIN.out, HFO.out, andB_at HL.out]
                    have : ¬ z1 < l := by omega
                    simp [this])
                  go_wp2_with (go_at_call 90; refine HC1.out.mono ?_; rintro e w5 ⟨rfl, rfl⟩)
                  go_ret2
                  exact ⟨HA0.out.below, by rw [HBF.out]; rfl⟩
                · by_cases hr : z1 < z2
                  · have HBF : Hid (BB = false) := Lib.hid (by
                      rw [HBIN.out, HFO.out, andB_at HL.out]
                      have : ¬ z2 ≤ z1 := by omega
                      simp [this])
                    go_wp2_with (go_at_call 90; refine HC1.out.mono ?_; rintro e w5 ⟨rfl, rfl⟩)
                    go_ret2
                    exact ⟨HA0.out.below, by rw [HBF.out]; rfl⟩
                  · go_wp2_with (go_at_call 90; refine HC1.out.mono ?_; rintro e w5 ⟨rfl, rfl⟩)
                    go_roundg (nA - (q + 1))
                    case measure => omega
                    case rel =>
                      refine ⟨q + 1, by omega, rfl, by go_num, ?_, ?_⟩
                      · rw [show (2 : Int) * ((nI : Int) + nL + ((q + 1 : Nat) : Int)) = 2 * ((nI : Int) + nL + (q : Int)) + 2 by push_cast; omega]
                        exact HA0.out
                      · rw [HFO.out, andB_at HL.out, show (2 : Int) * ((nI : Int) + nL + ((q + 1 : Nat) : Int)) = 2 * ((nI : Int) + nL + (q : Int)) + 2 by push_cast; omega]
                        have h3 : z1 < l := by omega
                        have h4 : z2 ≤ z1 := by omega
                        have h5 := HF.out
                        simp [h5, h4, show z1 < 2 * ((nI : Int) + nL + (q : Int)) + 2 by omega]
              · have hdec : decide (l = 2 * ((nI : Int) + nL + (q : Int)) + 2) = false := by simpa using hf
                rw [hdec] at HC1
                have HBF : Hid (BB = false) := Lib.hid (by rw [HBIN.out, HFO.out, andB_at HL.out, hdec]; simp)
                clear hf hdec
                go_wp2_with (go_at_call 90; refine HC1.out.mono ?_; rintro e w5 ⟨rfl, rfl⟩)
                go_ret2
                exact ⟨HA0.out.below, by rw [HBF.out]; rfl⟩
            · have hqe : nA = q := by omega
              subst hqe
              have hx := hst.box
              obtain ⟨c0, c1, c2, c3, c4, c5, c6, c7, c8, c9, c10⟩ := box_of hx
              have cl := hst.last.cell 0
              simp only [List.getElem?_toArray, List.getElem?_cons_zero] at cl
              have HFA : Hid (andB (2 * ((nI : Int) + nL)) C.ands = true) := Lib.hid (by rw [hfo, List.drop_eq_nil_of_le (by rw [HNA.out]; exact Nat.le_refl _)]; rfl)
              clear hst hfo hlt hq hx
              go_wp2
              go_ret2
              refine ⟨HST.out.below, ?_⟩
              rw [HBIN.out, HFI.out, HFL.out, HFA.out]
              simp [Array.getD]
              rfl
end Go.Proofs.Ytahjmkdpnkffhaa

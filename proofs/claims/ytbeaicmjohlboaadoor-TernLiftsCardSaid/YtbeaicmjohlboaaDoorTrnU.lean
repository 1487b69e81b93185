/- Tern: the contract of the document's Lift. -/
import Derived.Test.YtbeaicmjohlboaaDoorTrnB
import Derived.Test.YtbeaicmjohlboaaDoorTrnH
namespace Go.Proofs.YtbeaicmjohlboaaDoor
open Go.RowKit

set_option maxHeartbeats 4000000 in
set_option maxRecDepth 100000 in
theorem rOnes_any (w : World) (v lv : Value) (T lits : List Int) (hv : RowE 1 encI w v T) (hl : RowE 1 encI w lv lits) (h3 : Row3 T) (hT : T.length ≤ 20000) (hr : ∀ l ∈ lits, 0 ≤ l ∧ l / 2 < (T.length : Int)) :
    Calls Tryd.prog 49 #[v, lv] w fun e w' => e = .returned (.bool (ones3 T lits)) ∧ w' = w := by
  have HLIT := Lib.hid (fun (l : Int) (h0 : 0 ≤ l) (h1 : l / 2 < (T.length : Int)) => rLit0_any w v T l hv (row3_at h3 _) h0 h1 (by omega))
  have HR := Lib.hid hr
  have hm := hl.len
  obtain ⟨vA, vc, ev, _⟩ := hv
  subst ev
  obtain ⟨lA, lc, el, hl1, hl2, hrun⟩ := hl
  subst el
  have HRUN := Lib.hid hrun
  obtain ⟨k, hk⟩ : ∃ k, lits.length = k := ⟨_, rfl⟩
  have HK := Lib.hid hk
  have hk9 : k ≤ 9223372036854775807 := by unfold maxLen at hl2; omega
  rw [hk]
  generalize T.length = n at *
  clear hrun hk hl1 hl2 hm hr h3 hT
  go_enter Tryd.func49, Tryd.ntmps49
  go_wp2
  go_loopg [5] k (fun j iv wx => ∃ q : Nat, q ≤ k ∧ j = k - q ∧ iv = .int .i64 q ∧ wx = w ∧ ones3 T (lits.take q) = true)
  case atStart => exact ⟨0, Nat.zero_le _, rfl, rfl, rfl, rfl⟩
  case round =>
    obtain ⟨q, hq, hgk, rfl, hw, ho⟩ := hrel
    subst hgk hw
    by_cases hlt : q < k
    · obtain ⟨l, hx⟩ : ∃ x, lits[q]? = some x := ⟨_, List.getElem?_eq_getElem (by rw [HK.out]; exact hlt)⟩
      obtain ⟨lb, loff, e, _, hcell⟩ := HRUN.out q l hx
      subst e
      have k0 := hcell 0 _ rfl
      simp only [Nat.mul_one, Nat.add_zero] at k0
      obtain ⟨hl0, hl1⟩ := HR.out l (List.mem_of_getElem? hx)
      have HL := Lib.hid (HLIT.out l hl0 hl1)
      have htk : lits.take (q + 1) = lits.take q ++ [l] := by rw [List.take_add_one, hx]; rfl
      have hqi : (q : Int) < (k : Int) := by omega
      have hqi0 : (0 : Int) ≤ (q : Int) := by omega
      obtain ⟨x, hxl⟩ : ∃ x, lit3 T l = x := ⟨_, rfl⟩
      rw [hxl] at HL
      by_cases h1 : x = 1
      · have HN : Hid (ones3 T (lits.take (q + 1)) = true) := Lib.hid (by
          rw [htk]
          unfold ones3 at ho ⊢
          rw [List.all_append, ho]
          simp [hxl, h1])
        subst h1
        clear hcell hx ho htk hxl
        go_wp2_with (go_at_call 44; refine HL.out.mono ?_; rintro e w5 ⟨rfl, rfl⟩)
        go_roundg (k - (q + 1))
        case measure => omega
        case rel => exact ⟨q + 1, by omega, rfl, by go_num, rfl, HN.out⟩
      · have HN : Hid (ones3 T lits = false) := Lib.hid (by
          unfold ones3
          rw [List.all_eq_false]
          exact ⟨l, List.mem_of_getElem? hx, by simp [hxl, h1]⟩)
        have h1b : (x != 1) = true := by simpa using h1
        clear hcell hx ho htk hxl h1
        go_wp2_with (go_at_call 44; refine HL.out.mono ?_; rintro e w5 ⟨rfl, rfl⟩)
        go_ret
        first
          | exact ⟨(by rw [HN.out]; rfl), rfl⟩
          | simp [HN.out]
    · have hqe : q = k := by omega
      have htk : lits.take q = lits := List.take_of_length_le (by rw [HK.out]; omega)
      rw [htk] at ho
      have HO := Lib.hid ho
      have hqi : ¬ (q : Int) < (k : Int) := by omega
      clear htk ho hlt hqe
      go_wp2
      go_ret
      first
        | exact ⟨(by rw [HO.out]; rfl), rfl⟩
        | simp [HO.out]
end Go.Proofs.YtbeaicmjohlboaaDoor

namespace Go.Proofs.YtbeaicmjohlboaaDoor
open Go.RowKit

theorem wrapU {q n : Nat} (h : q < n) (h2 : n ≤ 16384) : Value.int .i64 (wrap64 ((q : Int) + 1)) = Value.int .i64 ((q + 1 : Nat) : Int) := by
  have e : wrap64 ((q : Int) + 1) = ((q + 1 : Nat) : Int) := by unfold wrap64; omega
  rw [e]
theorem own_set1U {w : World} {B n cap g q : Nat} {t : TypeId} {xs : List Value} (h : w.ownsRow B t 1 (.slice (some ⟨g, 0, none⟩) n cap) n xs) (hq : q < n) (u : Value) :
    B ≤ g ∧ (∃ cs, Blk w g t cs) ∧ (∀ i, w.frozen? ⟨g, i, none⟩ = false) ∧ w.cell? ⟨g, q, none⟩ = xs[q]? ∧ (w.setCell ⟨g, q, none⟩ u).ownsRow B t 1 (.slice (some ⟨g, 0, none⟩) n cap) n (xs.set q u) := by
  have hl := h.1
  rcases h.2 with ⟨hv, hn0⟩ | ⟨g', cap', cur, hv, hB, hh, h1, h2, h3, h4⟩
  · omega
  · injection hv with e1 e2 e3
    injection e1 with e1
    injection e1 with e1
    subst e1 e3
    have hb : Blk w g t cur := hh
    refine ⟨hB, ⟨cur, hb⟩, fun i => hb.frozen i, ?_, by simpa using hl, .inr ⟨g, cap, cur.setIfInBounds q u, rfl, hB, Blk.set_ hb q u, h1, h2, by simpa using h3, ?_⟩⟩
    · rw [hb.cell, ← h4, List.getElem?_take, if_pos (by omega), Array.getElem?_toList]
    · rw [Array.toList_setIfInBounds, ← h4, List.take_set]

set_option maxHeartbeats 8000000 in
set_option maxRecDepth 100000 in
theorem rTLift_any (w : World) (V : CV) (C : Circ) (sv rv lv : Value) (L I lits O : List Int) (h : C.In w V) (ok : C.Ok) (htn : ∀ s ∈ C.comments, s.size ≤ maxLen) (hs : RowE 1 encI w sv L) (hr : RowE 1 encI w rv I) (hl : RowE 1 encI w lv lits) (h64 : ∀ l ∈ lits, -9223372036854775808 ≤ l ∧ l ≤ 9223372036854775807) (hO : (checkR C).2 = 0 → IsOrd C O) :
    Calls Tryd.prog 25 #[V.val C.max, sv, rv, lv] w fun e w' => Below w.heap.size w w' ∧ ∃ v, e = .returned (.tuple #[v, .int .i64 (liftE C O L I lits)]) ∧ (liftE C O L I lits ≠ 0 → v = .slice none 0 0) ∧
      (liftE C O L I lits = 0 → w'.ownsRow w.heap.size 3 1 v C.latches.length ((lift3 C O I lits L).map (Value.int .i64))) := by
  have HVAL := Lib.hid (fun (wx : World) (hx : C.In wx V) (hy : RowE 1 encI wx sv L) (hz : RowE 1 encI wx rv I) => rTValues_any wx V C sv rv L I O hx ok htn hy hz hO)
  have HVAL2 := Lib.hid (fun (wx : World) (ov : Value) (L' : List Int) (hx : C.In wx V) (hy : RowE 1 encI wx ov L') (hz : RowE 1 encI wx rv I) => rTValues_any wx V C ov rv L' I O hx ok htn hy hz hO)
  have hall : ∀ wz, Below (w.alloc (.cells (V.cells C.max) 29)).heap.size (w.alloc (.cells (V.cells C.max) 29)) wz → Blk wz w.heap.size 29 (V.cells C.max) ∧ C.In wz V ∧ RowE 1 encI wz sv L ∧ RowE 1 encI wz rv I ∧ RowE 1 encI wz lv lits ∧ Below w.heap.size w wz := fun wz hb => by
    have h1 : Below w.heap.size w wz := ((Below.refl w.heap.size w).alloc (Nat.le_refl _) _).trans (hb.mono (by simp))
    exact ⟨(Blk.new w _ _).below hb (by simp), h.below h1, hs.below h1, hr.below h1, hl.below h1, h1⟩
  have HX : Hid (Below (w.alloc (.cells (V.cells C.max) 29)).heap.size (w.alloc (.cells (V.cells C.max) 29)) (w.alloc (.cells (V.cells C.max) 29))) := Lib.hid (Below.refl _ _)
  obtain ⟨AL, cL, eL, _, _, rL⟩ := h.l
  obtain ⟨sA, sn, sc, esv⟩ := slI_form hs
  obtain ⟨rA, rn, rc, erv⟩ := slI_form hr
  have hll := hl.len
  obtain ⟨lA, lc, elv, _, _, rl⟩ := hl
  have HRLT := Lib.hid rl
  by_cases h0 : fit3 C L I = 0
  · have hck := (fit3_ok h0).1
    have hrt := right_of hck
    have hord := hO hck
    have hm0 := hrt.m0
    have hm1 := hrt.m1
    have HFT := Lib.hid (fit3_ok h0)
    have HT3 := Lib.hid (row3_val (C := C) (gs := O) (fit3_ok h0).2.1.2 (fit3_ok h0).2.2.2)
    have HLE : Hid (liftE C O L I lits = trueE (val3 C O L I) lits) := Lib.hid (by unfold liftE; rw [if_pos h0])
    have HON := Lib.hid (fun (wx : World) (vv : Value) (T : List Int) (hT : RowE 1 encI wx vv T) (h3 : Row3 T) (hTl : T.length = C.max.toNat + 1) (hl' : RowE 1 encI wx lv lits) (hr' : ∀ l ∈ lits, 0 ≤ l ∧ l / 2 < (T.length : Int)) => rOnes_any wx vv lv T lits hT hl' h3 (by omega) hr')
    have HCK := Lib.hid hck
    have HRT := Lib.hid hrt
    have HORD := Lib.hid hord
    have H64 := Lib.hid h64
    have HTL : Hid ((val3 C O L I).length = C.max.toNat + 1) := Lib.hid (val3_len C O L I)
    rw [HLE.out]
    rw [h0] at HVAL
    clear hck hrt hord h0 hO h hs hr rL rl h64 HLE
    obtain ⟨Vi, Vl, Vo, Vb, Vc, Vj, Vf, Va, Vs, Vt⟩ := V
    simp only at eL
    subst eL esv erv elv
    obtain ⟨m, hmm⟩ : ∃ m, C.max = m := ⟨_, rfl⟩
    obtain ⟨nL, hnL⟩ : ∃ n, C.latches.length = n := ⟨_, rfl⟩
    obtain ⟨n, hn⟩ : ∃ n, m.toNat + 1 = n := ⟨_, rfl⟩
    obtain ⟨k, hk⟩ : ∃ k, lits.length = k := ⟨_, rfl⟩
    rw [hmm, hnL, hk] at hall
    rw [hmm, hnL] at HX
    rw [hmm, hnL, hn] at HVAL HVAL2
    rw [hmm, hn, hk] at HON
    rw [hmm, hn] at HTL
    rw [hmm] at hm0 hm1
    rw [hmm, hnL, hk]
    have HMM := Lib.hid (And.intro hmm (And.intro hnL (And.intro hn hk)))
    have HALL := Lib.hid hall
    clear hall hmm hnL hk hll hn
    obtain ⟨c0, c1, c2, c3, c4, c5, c6, c7, c8, c9, c10⟩ := rbox_of (HALL.out _ HX.out).1
    by_cases hkl : 16384 < k
    · have HE : Hid (trueE (val3 C O L I) lits = 2) := Lib.hid (trueE_long (by rw [HMM.out.2.2.2]; exact hkl))
      rw [HE.out]
      have hki : (16384 : Int) < (k : Int) := by omega
      go_enter Tryd.func25, Tryd.ntmps25
      go_wp2_with (go_at_call 12; refine (HVAL.out _ (HALL.out _ HX.out).2.1 (HALL.out _ HX.out).2.2.1 (HALL.out _ HX.out).2.2.2.1).mono ?_; rintro e wV ⟨hb, v1, rfl, _, hyes⟩; obtain ⟨g, rfl, hg1, ht1⟩ := hyes rfl; have HT1 := Lib.hid ht1; clear hyes hg1 ht1; have HXN := Lib.hid (bt HX.out (Nat.le_refl _) hb); clear HX hb c0 c1 c2 c3 c4 c5 c6 c7 c8 c9 c10; have HX := HXN; clear HXN; obtain ⟨c0, c1, c2, c3, c4, c5, c6, c7, c8, c9, c10⟩ := rbox_of (HALL.out _ HX.out).1)
      go_ret2
      first | exact ⟨(HALL.out _ HX.out).2.2.2.2.2, _, rfl, fun _ => rfl, fun h => absurd h (by decide)⟩ | exact ⟨(HALL.out _ HX.out).2.2.2.2.2, rfl⟩
    · have hki : ¬ (16384 : Int) < (k : Int) := by omega
      obtain ⟨E, hE⟩ : ∃ E, trueE (val3 C O L I) lits = E := ⟨_, rfl⟩
      rw [hE]
      have HE := Lib.hid hE
      clear hE
      go_enter Tryd.func25, Tryd.ntmps25
      go_upto_region 6 with (go_at_call 12; refine (HVAL.out _ (HALL.out _ HX.out).2.1 (HALL.out _ HX.out).2.2.1 (HALL.out _ HX.out).2.2.2.1).mono ?_; rintro e wV ⟨hb, v1, rfl, _, hyes⟩; obtain ⟨g, rfl, hg1, ht1⟩ := hyes rfl; have HT1 := Lib.hid ht1; clear hyes hg1 ht1; have HXN := Lib.hid (bt HX.out (Nat.le_refl _) hb); clear HX hb c0 c1 c2 c3 c4 c5 c6 c7 c8 c9 c10; have HX := HXN; clear HXN; obtain ⟨c0, c1, c2, c3, c4, c5, c6, c7, c8, c9, c10⟩ := rbox_of (HALL.out _ HX.out).1)
      have HB0 : Hid (Below wV.heap.size wV wV) := Lib.hid (Below.refl _ _)
      clear c0 c1 c2 c3 c4 c5 c6 c7 c8 c9 c10
      go_wp2
      go_loopg [12] k (fun j iv wx => ∃ q : Nat, q ≤ k ∧ j = k - q ∧ iv = .int .i64 q ∧ Below wV.heap.size wV wx ∧ (lits.take q).all (inLits n) = true)
      case atStart => exact ⟨0, Nat.zero_le _, rfl, rfl, HB0.out, rfl⟩
      case round =>
        obtain ⟨q, hq, hgk, rfl, hbx, hin⟩ := hrel
        subst hgk
        clear HB0
        have HBX := Lib.hid hbx
        have HIN := Lib.hid hin
        have HXD := Lib.hid (bt HX.out (Nat.le_refl _) hbx.drew)
        clear hbx hin
        by_cases hlt : q < k
        · obtain ⟨l, hx⟩ : ∃ x, lits[q]? = some x := ⟨_, List.getElem?_eq_getElem (by rw [HMM.out.2.2.2]; exact hlt)⟩
          obtain ⟨lb, loff, e, hlb, hcell⟩ := HRLT.out q l hx
          subst e
          have k0 := ((HALL.out _ HXD.out).2.2.2.2.2.cell (p := ⟨lb, loff + (q * 1 + 0), none⟩) hlb).trans (hcell 0 _ rfl)
          simp only [Nat.mul_one, Nat.add_zero] at k0
          have b0 := (HALL.out _ HXD.out).1.cell 0
          simp only [List.getElem?_toArray, List.getElem?_cons_zero] at b0
          have htk : lits.take (q + 1) = lits.take q ++ [l] := by rw [List.take_add_one, hx]; rfl
          have hqi : (q : Int) < (k : Int) := by omega
          have hqi0 : (0 : Int) ≤ (q : Int) := by omega
          have hmw : IntKind.i64.wrap (2 * m) = 2 * m := by simp [IntKind.wrap, IntKind.bits, IntKind.signed]; omega
          have hmw2 : IntKind.i64.wrap (2 * m + 1) = 2 * m + 1 := by simp [IntKind.wrap, IntKind.bits, IntKind.signed]; omega
          have hnm : (n : Int) = m + 1 := by have := HMM.out.2.2.1; omega
          have HNO : inLits n l = false → E = 1 := fun h9 => by
            rw [← HE.out]
            exact trueE_range (by rw [HMM.out.2.2.2]; exact hkl) hx (by rw [HTL.out]; exact h9)
          clear hcell
          go_upto_region 9 with (fail)
          by_cases hl0 : l < 0
          · have hE1 := HNO (by unfold inLits; simp; omega)
            subst hE1
            clear hx htk HNO
            go_region
            go_wp2
            go_ret2
            first | exact ⟨(HALL.out _ HXD.out).2.2.2.2.2, _, rfl, fun _ => rfl, fun h => absurd h (by decide)⟩ | exact ⟨(HALL.out _ HXD.out).2.2.2.2.2, rfl⟩
          · by_cases hl1 : 2 * m + 1 < l
            · have hE1 := HNO (by unfold inLits; simp; omega)
              subst hE1
              clear hx htk HNO
              go_region
              go_wp2
              go_ret2
              first | exact ⟨(HALL.out _ HXD.out).2.2.2.2.2, _, rfl, fun _ => rfl, fun h => absurd h (by decide)⟩ | exact ⟨(HALL.out _ HXD.out).2.2.2.2.2, rfl⟩
            · have HN : Hid ((lits.take (q + 1)).all (inLits n) = true) := Lib.hid (by
                rw [htk, List.all_append, HIN.out]
                have : inLits n l = true := inLits_iff.2 ⟨by omega, by omega⟩
                simp [this])
              have HB2 := Lib.hid HBX.out.drew
              clear hx htk HNO
              go_region
              go_wp2
              go_roundg (k - (q + 1))
              case measure => omega
              case rel => exact ⟨q + 1, by omega, rfl, by go_num, HB2.out, HN.out⟩
        · have hqe : q = k := by omega
          have htk : lits.take q = lits := List.take_of_length_le (by rw [HMM.out.2.2.2]; omega)
          have hall := HIN.out
          rw [htk] at hall
          have hbw := bt HX.out (Nat.le_refl _) HBX.out
          have hnu := Blk.below HT1.out HBX.out (Blk.lt HT1.out)
          have hrow := nums_row hnu (by rw [HTL.out]; have := HMM.out.2.2.1; unfold maxLen; omega)
          rw [HTL.out] at hrow
          have hcall := HON.out wr _ _ hrow HT3.out (by rw [HTL.out]) (HALL.out _ hbw).2.2.2.2.1 (fun l hl => by
            have h9 := inLits_iff.1 ((List.all_eq_true.1 hall) l hl)
            rw [HTL.out]
            exact h9)
          have hE := HE.out
          unfold trueE at hE
          rw [if_neg (by rw [HMM.out.2.2.2]; exact hkl), if_pos (by rw [HTL.out]; exact hall)] at hE
          have HBW := Lib.hid hbw
          have HNU := Lib.hid hnu
          have HLA := Lib.hid hall
          have hqi : ¬ (q : Int) < (k : Int) := by omega
          obtain ⟨b, hb⟩ : ∃ b, ones3 (val3 C O L I) lits = b := ⟨_, rfl⟩
          rw [hb] at hcall hE
          have HCALL := Lib.hid hcall
          have HOB := Lib.hid hb
          clear hcall hbw hnu hrow hall htk hb hqe hlt
          cases b
          · have hE1 : E = 81 := by simpa using hE.symm
            subst hE1
            clear hE
            go_wp2_with (go_at_call 49; refine HCALL.out.mono ?_; rintro e w5 ⟨rfl, hw5⟩; rw [hw5]; clear hw5 w5)
            go_ret2
            first | exact ⟨(HALL.out _ HBW.out).2.2.2.2.2, _, rfl, fun _ => rfl, fun h => absurd h (by decide)⟩ | exact ⟨(HALL.out _ HBW.out).2.2.2.2.2, rfl⟩
          · have hE1 : E = 0 := by simpa using hE.symm
            subst hE1
            clear hE
            go_upto_region 13 with (go_at_call 49; refine HCALL.out.mono ?_; rintro e w5 ⟨rfl, hw5⟩; rw [hw5]; clear hw5 w5)
            have hs1 := (HALL.out _ HBW.out).2.2.1
            obtain ⟨A9, c9s, e9, hrd⟩ := RowE.reads lenI (by omega) hs1
            injection e9 with e91 e92 e93
            subst e91 e93
            have hsn : nL = sn := by rw [e92, HFT.out.2.1.1, HMM.out.2.1]
            subst hsn
            rw [← e92, flat_ints] at hrd
            have HRD := Lib.hid hrd
            have HLL : Hid (L.length = nL) := Lib.hid e92.symm
            have HNL : Hid (nL ≤ 16384) := Lib.hid (by have h1 := HRT.out.nl; rw [HMM.out.2.1] at h1; exact h1)
            obtain ⟨i0, hi0, hz0, hz1, hz2⟩ := info_parts int_infoL
            obtain ⟨W4, hW4⟩ : ∃ W4 : World, W4 = wr := ⟨_, rfl⟩
            subst hW4
            have HFIT : Hid (∀ L', L'.length = nL → Row3 L' → fit3 C L' I = 0) := Lib.hid (fun L' h1 h2 => fit3_yes HCK.out (okRow_iff.2 ⟨by rw [HMM.out.2.1]; exact h1, h2⟩) (okRow_iff.2 HFT.out.2.2))
            clear e92 hrd hs1
            go_wp2_with (at_builtin; refine wpList_append_any _ rfl (.tmp 57) (.tmp 58) _ rfl W4.heap.size 3 i0 _ 1 8 Tryd.underlying22 hi0 hz0 hz1 hz2 rfl (by omega) (.slice (some ⟨W4.heap.size, 0, none⟩) 0 0) 0 [] rfl (World.ownsRow_made W4 #[] 0 (Nat.le_refl _) (by simp [maxLen]) rfl) W4.heap.size sA nL sc (ints L) rfl (HRD.out.alloc (Nat.le_refl _) _) (ints_one L) (by have := HNL.out; simp only [maxLen]; omega) (by have := HNL.out; omega) (by simp) ?_; intro v5 w5 hown5 hg5 hat5; rw [Nat.zero_add, List.nil_append] at hown5; have HO5 := Lib.hid hown5; have HB5 : Hid (Below W4.heap.size W4 w5) := Lib.hid (((Below.refl _ _).alloc (Nat.le_refl _) _).grown hg5 (by simp) (by intro k hk; cases hk; exact Nat.le_refl _)); clear hg5 hat5; obtain ⟨A5, c5v, hv5⟩ := own_slice_k hown5; subst hv5; clear hown5)
            go_loopg [14] nL (fun j iv wx => ∃ q : Nat, q ≤ nL ∧ j = nL - q ∧ iv = .int .i64 q ∧ Below W4.heap.size W4 wx ∧ wx.ownsRow W4.heap.size 3 1 (.slice A5 nL c5v) nL (ints (liftN C O I lits L q)))
            case atStart => exact ⟨0, Nat.zero_le _, rfl, rfl, HB5.out, HO5.out⟩
            case round =>
              obtain ⟨q, hq, hgk, rfl, hbx, hown⟩ := hrel
              subst hgk
              clear HB5 HO5
              have HBX := Lib.hid hbx
              have HOWN := Lib.hid hown
              obtain ⟨LQ, hLQ⟩ : ∃ LQ, liftN C O I lits L q = LQ := ⟨_, rfl⟩
              have HLQ := Lib.hid hLQ
              rw [hLQ] at HOWN hown
              have HLN : Hid (LQ.length = nL) := Lib.hid (by rw [← hLQ, liftN_len]; exact HLL.out)
              have HR3 : Hid (Row3 LQ) := Lib.hid (by rw [← hLQ]; exact row3_lift HFT.out.2.1.2 q)
              clear hbx
              by_cases hlt : q < nL
              · obtain ⟨x, hx⟩ : ∃ x, LQ[q]? = some x := ⟨_, List.getElem?_eq_getElem (by rw [HLN.out]; exact hlt)⟩
                obtain ⟨g5, cap5, cur5, e5, hB5, hg5, h51, h52, h53, h54⟩ := own_form hown (by omega)
                injection e5 with e51 _ e53
                subst e51 e53
                have hm9 := h52
                unfold maxLen at hm9
                have hs := own_set1U hown hlt (.int .i64 2)
                obtain ⟨_, _, hfr, hcell, hset⟩ := hs
                rw [show (ints LQ)[q]? = some (Value.int .i64 x) by simp [hx]] at hcell
                have hfrq := hfr q
                have hgl := (Array.getElem?_eq_some_iff.1 hg5).1
                obtain ⟨w5, hw5⟩ : ∃ w5, wr.setCell ⟨g5, q, none⟩ (.int .i64 2) = w5 := ⟨_, rfl⟩
                have hbs : Below W4.heap.size W4 w5 := by rw [← hw5]; exact HBX.out.setCell (by simpa using hB5) _
                rw [hw5] at hset
                have hset2 : w5.ownsRow W4.heap.size 3 1 (.slice (some ⟨g5, 0, none⟩) nL c5v) nL (ints (LQ.set q 2)) := by
                  have := hset
                  rwa [show (ints LQ).set q (.int .i64 2) = ints (LQ.set q 2) by rw [ints, ints, List.map_set]] at this
                have HS5 := Lib.hid hset2
                have HBS := Lib.hid hbs
                have hr2 : Row3 (LQ.set q 2) := row3_set HR3.out _ (.inr (.inr rfl))
                have hl2 : (LQ.set q 2).length = nL := by rw [List.length_set]; exact HLN.out
                have hrow5 : RowE 1 encI w5 (.slice (some ⟨g5, 0, none⟩) nL c5v) (LQ.set q 2) := own_rowe lenI (by rw [flat_ints, hl2]; exact hset2)
                have hval := HVAL2.out w5 _ (LQ.set q 2) (HALL.out _ (bt HBW.out (Nat.le_refl _) hbs)).2.1 hrow5 (HALL.out _ (bt HBW.out (Nat.le_refl _) hbs)).2.2.2.1
                rw [HFIT.out _ hl2 hr2] at hval
                have HV5 := Lib.hid hval
                have HR5 := Lib.hid (row3_val (C := C) (gs := O) hr2 HFT.out.2.2.2)
                have HTL5 : Hid ((val3 C O (LQ.set q 2) I).length = n) := Lib.hid (by rw [val3_len, HMM.out.1, HMM.out.2.2.1])
                obtain ⟨b5, hb5⟩ : ∃ b, ones3 (val3 C O (LQ.set q 2) I) lits = b := ⟨_, rfl⟩
                have HB5 := Lib.hid hb5
                have HX5 := Lib.hid hx
                have hqi : (q : Int) < (nL : Int) := by omega
                have hqi0 : (0 : Int) ≤ (q : Int) := by omega
                have HW5 := Lib.hid hw5
                clear hset hset2 hbs hr2 hl2 hrow5 hval hb5 hw5 hx hLQ hown hg5 h51 h53 h54 hfr
                have HBG := Lib.hid (show W4.heap.size ≤ g5 from hB5)
                have HLT := Lib.hid hlt
                clear hB5
                obtain ⟨c0, c1, c2, c3, c4, c5, c6, c7, c8, c9, c10⟩ := rbox_of (HALL.out _ (bt HBW.out (Nat.le_refl _) HBS.out)).1
                go_upto_region 19 with (fail)
                rw [HW5.out]
                go_upto_region 20 with (go_at_call 12; refine HV5.out.mono ?_; rintro e w6 ⟨hb6, v6, rfl, _, hyes⟩; obtain ⟨g6, rfl, hg6, ht6⟩ := hyes rfl; have HB6 := Lib.hid hb6; have HT6 := Lib.hid ht6; clear hyes hg6 hb6 ht6 c0 c1 c2 c3 c4 c5 c6 c7 c8 c9 c10)
                have hrow6 := nums_row HT6.out (by rw [HTL5.out]; have := HMM.out.2.2.1; have := HRT.out.m1; rw [HMM.out.1] at this; unfold maxLen; omega)
                rw [HTL5.out] at hrow6
                have hones := HON.out w6 _ _ hrow6 HR5.out HTL5.out (HALL.out _ (bt HBW.out (Nat.le_refl _) (bt HBS.out (Nat.le_refl _) HB6.out))).2.2.2.2.1 (fun l hl => by
                  have h9 := inLits_iff.1 ((List.all_eq_true.1 HLA.out) l hl)
                  rw [HTL5.out]
                  exact h9)
                rw [HB5.out] at hones
                have HC6 := Lib.hid hones
                obtain ⟨_, ⟨cs6, hblk6⟩, hfr6, hcell6, hset6⟩ := own_set1U (own_below HS5.out HB6.out) HLT.out (.int .i64 x)
                rw [show (ints (LQ.set q 2))[q]? = some (Value.int .i64 2) by simp [HLN.out, HLT.out]] at hcell6
                have hfrq6 := hfr6 q
                have hgl6 := Blk.lt hblk6
                have HSET6 : Hid ((w6.setCell ⟨g5, q, none⟩ (.int .i64 x)).ownsRow W4.heap.size 3 1 (.slice (some ⟨g5, 0, none⟩) nL c5v) nL (ints LQ)) := Lib.hid (by
                  have := hset6
                  rwa [show (ints (LQ.set q 2)).set q (.int .i64 x) = ints LQ by
                    rw [ints, ← List.map_set, List.set_set]
                    obtain ⟨h, e⟩ := List.getElem?_eq_some_iff.1 HX5.out
                    subst e
                    rw [List.set_getElem_self]] at this)
                clear hrow6 hones hblk6 hfr6 hset6
                cases b5
                · go_wp2_with (go_at_call 49; refine HC6.out.mono ?_; rintro e w7 ⟨rfl, hw7⟩; rw [hw7]; clear hw7 w7)
                  go_roundg (nL - (q + 1))
                  case measure => omega
                  case rel =>
                    have hlt9 := HLT.out
                    have hnl9 := HNL.out
                    refine ⟨q + 1, HLT.out, rfl, (wrapU HLT.out HNL.out), (bt HBS.out (Nat.le_refl _) HB6.out).setCell (by simpa using HBG.out) _, ?_⟩
                    rw [liftN_succ, HLQ.out]
                    unfold lift1
                    rw [if_neg (by rw [HB5.out]; decide)]
                    exact HSET6.out
                · go_wp2_with (go_at_call 49; refine HC6.out.mono ?_; rintro e w7 ⟨rfl, hw7⟩; rw [hw7]; clear hw7 w7)
                  go_roundg (nL - (q + 1))
                  case measure => omega
                  case rel =>
                    have hlt9 := HLT.out
                    have hnl9 := HNL.out
                    refine ⟨q + 1, HLT.out, rfl, (wrapU HLT.out HNL.out), bt HBS.out (Nat.le_refl _) HB6.out, ?_⟩
                    rw [liftN_succ, HLQ.out]
                    unfold lift1
                    rw [if_pos HB5.out]
                    exact own_below HS5.out HB6.out
              · have hqe : q = nL := by omega
                have HFIN : Hid (lift3 C O I lits L = LQ) := Lib.hid (by rw [← hLQ]; unfold lift3 liftN; rw [HLL.out, hqe])
                have hqi : ¬ (q : Int) < (nL : Int) := by omega
                clear hLQ hown hlt
                go_wp2
                go_ret2
                rw [HFIN.out]
                exact ⟨bt (HALL.out _ HBW.out).2.2.2.2.2 (Nat.le_refl _) HBX.out, _, rfl, own_le HOWN.out (HALL.out _ HBW.out).2.2.2.2.2.size⟩
  · have HLE : Hid (liftE C O L I lits = fit3 C L I) := Lib.hid (by unfold liftE; rw [if_neg h0])
    rw [HLE.out]
    obtain ⟨r, hrr⟩ : ∃ r, fit3 C L I = r := ⟨_, rfl⟩
    rw [hrr] at HVAL h0 ⊢
    have hq : (r != 0) = true := by simpa using h0
    have H0 := Lib.hid h0
    clear h0 hrr hO h hs hr rL rl h64 HLE
    obtain ⟨Vi, Vl, Vo, Vb, Vc, Vj, Vf, Va, Vs, Vt⟩ := V
    simp only at eL
    subst eL esv erv elv
    obtain ⟨m, hmm⟩ : ∃ m, C.max = m := ⟨_, rfl⟩
    obtain ⟨nL, hnL⟩ : ∃ n, C.latches.length = n := ⟨_, rfl⟩
    obtain ⟨k, hk⟩ : ∃ k, lits.length = k := ⟨_, rfl⟩
    rw [hmm, hnL, hk] at hall
    rw [hmm, hnL] at HX HVAL
    rw [hmm, hnL, hk]
    have HALL := Lib.hid hall
    clear hall hmm hnL hk hll
    obtain ⟨c0, c1, c2, c3, c4, c5, c6, c7, c8, c9, c10⟩ := rbox_of (HALL.out _ HX.out).1
    go_enter Tryd.func25, Tryd.ntmps25
    go_wp2_with (go_at_call 12; refine (HVAL.out _ (HALL.out _ HX.out).2.1 (HALL.out _ HX.out).2.2.1 (HALL.out _ HX.out).2.2.2.1).mono ?_; rintro e wV ⟨hb, v1, rfl, hno, _⟩; obtain rfl := hno H0.out; clear hno; have HXN := Lib.hid (bt HX.out (Nat.le_refl _) hb); clear HX hb c0 c1 c2 c3 c4 c5 c6 c7 c8 c9 c10; have HX := HXN; clear HXN)
    go_ret2
    exact ⟨(HALL.out _ HX.out).2.2.2.2.2, _, rfl, fun _ => rfl, fun h => absurd h H0.out⟩
end Go.Proofs.YtbeaicmjohlboaaDoor

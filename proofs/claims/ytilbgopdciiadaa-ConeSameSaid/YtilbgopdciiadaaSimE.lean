/- Sim: the contracts of the program's calls Values, Next, Holds. -/
import Derived.Test.YtilbgopdciiadaaSimB
import Derived.Test.YtilbgopdciiadaaRfO
namespace Go.Proofs.Ytilbgopdciiadaa
open Go.RowKit

/-- The one order of a right circuit's gates. -/
structure IsOrd (C : Circ) (O : List Int) : Prop where
  g : Greedy (usesC C) O
  l : O.length = C.ands.length
theorem IsOrd.same {C : Circ} {O P : List Int} (h : IsOrd C O) (g : Greedy (usesC C) P) (l : P.length = C.ands.length) : P = O := greedy_same _ g h.g l h.l
theorem IsOrd.inR {C : Circ} {O : List Int} (h : IsOrd C O) : ∀ x ∈ O, 0 ≤ x ∧ x < (C.ands.length : Int) := fun x hx => by
  have := h.g.inR x hx
  unfold InR at this
  rw [usesC_len] at this
  exact this
theorem ord_ex {w : World} {V : CV} {C : Circ} (h : C.In w V) (ok : C.Ok) : ∃ O, (checkR C).2 = 0 → IsOrd C O := by
  obtain ⟨e, w', fr, ⟨_, v, out, _, _, hr⟩, _⟩ := Order_any w V C h ok []
  exact ⟨out, fun h0 => ⟨(hr h0).2.1, (hr h0).2.2⟩⟩
theorem fillT_set {L : List Bool} {n k : Nat} {x : Bool} (hl : L.length = n) (hx : L[k]? = some x) : (L.take k ++ List.replicate (n - k) false).set k x = L.take (k + 1) ++ List.replicate (n - (k + 1)) false := by
  have hk : k < n := by rw [← hl]; exact (List.getElem?_eq_some_iff.1 hx).1
  obtain ⟨d, hd⟩ : ∃ d, n - k = d + 1 := ⟨n - k - 1, by omega⟩
  have hd2 : n - (k + 1) = d := by omega
  have htl : (L.take k).length = k := by rw [List.length_take]; omega
  rw [hd, hd2, List.set_append_right _ _ (by omega), htl, Nat.sub_self, List.replicate_succ, List.set_cons_zero, List.take_add_one, hx]
  simp
theorem fillT_len {L : List Bool} {n k : Nat} (hl : L.length = n) (hk : k ≤ n) : (L.take k ++ List.replicate (n - k) false).length = n := by simp; omega
theorem fillT_end {L : List Bool} {n : Nat} (hl : L.length = n) : L.take n ++ List.replicate (n - n) false = L := by simp [List.take_of_length_le (Nat.le_of_eq hl)]
theorem nextF_len (C : Circ) (T : List Bool) : (nextF C T).length = C.latches.length := by simp [nextF]
theorem nextF_at {C : Circ} {T : List Bool} {k : Nat} {z : Tri} (h : C.latches[k]? = some z) : (nextF C T)[k]? = some (litV T z.2.1) := by simp [nextF, List.getElem?_map, h]
/-- What lies in a block that the call has made itself, besides the circuit's box. -/
structure NS (w0 wr : World) (bx g : Nat) (cs : Array Value) (T : List Bool) : Prop where
  below : Below w0.heap.size w0 wr
  box : Blk wr bx 29 cs
  tab : Tab wr g T
theorem NS.alloc {w0 wr : World} {bx g : Nat} {cs : Array Value} {T : List Bool} (h : NS w0 wr bx g cs T) (o : Obj) : NS w0 (wr.alloc o) bx g cs T := ⟨h.below.alloc h.below.size o, h.box.alloc o, Blk.alloc h.tab o⟩
theorem NS.set_ {w0 wr : World} {bx g : Nat} {cs : Array Value} {T : List Bool} (h : NS w0 wr bx g cs T) (hB : w0.heap.size ≤ g) (hx : bx ≠ g) (i : Nat) (b : Bool) : NS w0 (wr.setCell ⟨g, i, none⟩ (.bool b)) bx g cs (T.set i b) :=
  ⟨h.below.setCell hB _, Blk.far h.box (by simpa using hx) _, Tab.set_ h.tab i b⟩

set_option maxHeartbeats 4000000 in
set_option maxRecDepth 100000 in
theorem nextOf_any (w : World) (V : CV) (C : Circ) (bq : Nat) (v : Value) (T : List Bool) (h : C.In w V) (hrt : Right C) (hc : w.cell? ⟨bq, 0, none⟩ = some v) (hbq : bq < w.heap.size) (hv : RowE 1 encO w v T) (hT : T.length = C.max.toNat + 1) :
    Calls Try.prog 80 #[V.val C.max, isV bq] w fun e w' => ∃ g, e = .returned (.slice (some ⟨g, 0, none⟩) C.latches.length C.latches.length) ∧ w.heap.size ≤ g ∧ Below w.heap.size w w' ∧ Tab w' g (nextF C T) := by
  have hnl := hrt.nl
  have hm0 := hrt.m0
  have hm1 := hrt.m1
  have hmk := make_bools C.latches.length (by omega)
  have HL : Hid (∀ z ∈ C.latches, 0 ≤ z.2.1 ∧ z.2.1 / 2 ≤ C.max) := Lib.hid (fun z hz => by have := (hrt.l z hz).2.1; unfold LitOk at this; exact this)
  have HIS : Hid (∀ (wx : World) (l : Int), Below w.heap.size w wx → 0 ≤ l → l / 2 ≤ C.max → Calls Try.prog 129 #[.int .i64 l, .pointer (some ⟨bq, 0, none⟩)] wx fun e w' => e = .returned (.bool (litV T l)) ∧ w' = wx) := Lib.hid (fun wx l hx h0 h1 =>
    is_any wx bq v T l ((hx.cell (p := ⟨bq, 0, none⟩) hbq).trans hc) (hv.below hx) h0 (by rw [hT]; omega) (by omega))
  obtain ⟨AL, cL, eL, _, _, rL⟩ := h.l
  obtain ⟨Vi, Vl, Vo, Vb, Vc, Vj, Vf, Va, Vs, Vt⟩ := V
  simp only at eL
  subst eL
  have HRL := Lib.hid rL
  have HNX := Lib.hid (nextF_len C T)
  have HNA := Lib.hid (fun (k : Nat) (z : Tri) (hz : C.latches[k]? = some z) => nextF_at (T := T) hz)
  have HS0 : Hid (NS w ((w.alloc (.cells #[.int .i64 C.max, Vi, .slice AL C.latches.length cL, Vo, Vb, Vc, Vj, Vf, Va, Vs, Vt] 29)).alloc (.cells (madeCells #[Value.bool false] C.latches.length) 4)) w.heap.size (w.heap.size + 1) #[.int .i64 C.max, Vi, .slice AL C.latches.length cL, Vo, Vb, Vc, Vj, Vf, Va, Vs, Vt] (List.replicate C.latches.length false)) := by
    refine Lib.hid ⟨((Below.refl w.heap.size w).alloc (Nat.le_refl _) _).alloc (by simp) _, (Blk.new w _ _).alloc _, ?_⟩
    unfold Tab
    rw [← made_bools]
    have := Blk.new (w.alloc (.cells #[.int .i64 C.max, Vi, .slice AL C.latches.length cL, Vo, Vb, Vc, Vj, Vf, Va, Vs, Vt] 29)) 4 (madeCells #[Value.bool false] C.latches.length)
    simpa using this
  obtain ⟨n, hn⟩ : ∃ n, C.latches.length = n := ⟨_, rfl⟩
  obtain ⟨m, hmm⟩ : ∃ m, C.max = m := ⟨_, rfl⟩
  rw [hn] at HNX hnl HS0 hmk
  rw [hmm] at HL HIS HS0 hm0 hm1
  rw [hn, hmm]
  have HN := Lib.hid hn
  have HMM := Lib.hid hmm
  clear rL h hrt hc hv hT hn hmm
  generalize nextF C T = L at *
  go_enter Try.func80, Try.ntmps80
  go_wp2
  go_loopg [15] n (fun k j wx => ∃ q : Nat, q ≤ n ∧ k = n - q ∧ j = .int .i64 q ∧ NS w wx w.heap.size (w.heap.size + 1) #[.int .i64 m, Vi, .slice AL n cL, Vo, Vb, Vc, Vj, Vf, Va, Vs, Vt] (L.take q ++ List.replicate (n - q) false))
  case atStart => exact ⟨0, Nat.zero_le _, rfl, rfl, HS0.out⟩
  case round =>
    obtain ⟨q, hq, hgk, rfl, hst⟩ := hrel
    subst hgk
    have HST := Lib.hid hst
    clear hst
    by_cases hlt : q < n
    · obtain ⟨z, hz⟩ : ∃ z, C.latches[q]? = some z := ⟨_, List.getElem?_eq_getElem (by rw [HN.out]; exact hlt)⟩
      obtain ⟨b, off, e, hb, hcell⟩ := HRL.out q z hz
      subst e
      have HZ := Lib.hid (HL.out z (List.mem_of_getElem? hz))
      have HX := Lib.hid (HNA.out q z hz)
      obtain ⟨z0, z1, z2⟩ := z
      have h0 := (HST.out.below.cell (p := ⟨b, off + (q * 3 + 0), none⟩) hb).trans (hcell 0 _ rfl)
      have h1 := (HST.out.below.cell (p := ⟨b, off + (q * 3 + 1), none⟩) hb).trans (hcell 1 _ rfl)
      have h2 := (HST.out.below.cell (p := ⟨b, off + (q * 3 + 2), none⟩) hb).trans (hcell 2 _ rfl)
      simp only [Nat.add_zero, ← Nat.add_assoc] at h0 h1 h2
      have HSA := Lib.hid (HST.out.alloc (.cells #[.int .i64 z0, .int .i64 z1, .int .i64 z2] 78))
      have htl : q < (L.take q ++ List.replicate (n - q) false).length := by rw [fillT_len HNX.out hq]; exact hlt
      have hold := HSA.out.tab.cell (getD_bool htl)
      have hfr := Blk.frozen HSA.out.tab q
      have hgb := Blk.lt HSA.out.tab
      clear hcell hz htl
      go_wp2_with (go_at_call 129; refine (HIS.out _ z1 HSA.out.below HZ.out.1 HZ.out.2).mono ?_; rintro e w5 ⟨rfl, rfl⟩)
      go_roundg (n - (q + 1))
      case measure => omega
      case rel =>
        refine ⟨q + 1, by omega, rfl, by go_num, ?_⟩
        rw [← fillT_set HNX.out HX.out]
        exact HSA.out.set_ (by omega) (by omega) _ _
    · have hqe : n = q := by omega
      subst hqe
      have hend := HST.out
      rw [fillT_end HNX.out] at hend
      have HE := Lib.hid hend
      clear hlt hq hend
      go_wp2
      go_ret
      exact ⟨w.heap.size + 1, rfl, by omega, HE.out.below, HE.out.tab⟩

set_option maxHeartbeats 4000000 in
set_option maxRecDepth 100000 in
theorem holdsBy_any (w : World) (V : CV) (C : Circ) (bq : Nat) (v : Value) (T : List Bool) (h : C.In w V) (hrt : Right C) (hc : w.cell? ⟨bq, 0, none⟩ = some v) (hbq : bq < w.heap.size) (hv : RowE 1 encO w v T) (hT : T.length = C.max.toNat + 1) :
    Calls Try.prog 132 #[V.val C.max, isV bq] w fun e w' => e = .returned (.bool (holdsF C T)) ∧ Below w.heap.size w w' := by
  have hnl := hrt.nc
  have hm0 := hrt.m0
  have hm1 := hrt.m1
  have HL : Hid (∀ z ∈ C.constraints, 0 ≤ z ∧ z / 2 ≤ C.max) := Lib.hid (fun z hz => by have := hrt.c z hz; unfold LitOk at this; exact this)
  have HIS : Hid (∀ (wx : World) (l : Int), Below w.heap.size w wx → 0 ≤ l → l / 2 ≤ C.max → Calls Try.prog 129 #[.int .i64 l, .pointer (some ⟨bq, 0, none⟩)] wx fun e w' => e = .returned (.bool (litV T l)) ∧ w' = wx) := Lib.hid (fun wx l hx h0 h1 =>
    is_any wx bq v T l ((hx.cell (p := ⟨bq, 0, none⟩) hbq).trans hc) (hv.below hx) h0 (by rw [hT]; omega) (by omega))
  obtain ⟨AC, cC, eC, _, _, rC⟩ := h.c
  obtain ⟨Vi, Vl, Vo, Vb, Vc, Vj, Vf, Va, Vs, Vt⟩ := V
  simp only at eC
  subst eC
  have HRC := Lib.hid rC
  have HH : Hid (holdsF C T = C.constraints.all (litV T)) := Lib.hid rfl
  have HB := Lib.hid ((Below.refl w.heap.size w).alloc (Nat.le_refl _) (.cells #[.int .i64 C.max, Vi, Vl, Vo, Vb, .slice AC C.constraints.length cC, Vj, Vf, Va, Vs, Vt] 29))
  obtain ⟨n, hn⟩ : ∃ n, C.constraints.length = n := ⟨_, rfl⟩
  obtain ⟨m, hmm⟩ : ∃ m, C.max = m := ⟨_, rfl⟩
  rw [hn] at hnl HB
  rw [hmm] at HL HIS HB hm0 hm1
  rw [hn, hmm]
  have HN := Lib.hid hn
  clear rC h hrt hc hv hT hn hmm
  generalize holdsF C T = r at *
  go_enter Try.func132, Try.ntmps132
  go_wp2
  go_loopg [10] n (fun k j wx => ∃ q : Nat, q ≤ n ∧ k = n - q ∧ j = .int .i64 q ∧ (C.constraints.take q).all (litV T) = true ∧ Below w.heap.size w wx)
  case atStart => exact ⟨0, Nat.zero_le _, rfl, rfl, rfl, HB.out⟩
  case round =>
    obtain ⟨q, hq, hgk, rfl, hal, hbw⟩ := hrel
    subst hgk
    have HAL := Lib.hid hal
    have HBW := Lib.hid hbw
    clear hal hbw
    by_cases hlt : q < n
    · obtain ⟨z, hz⟩ : ∃ z, C.constraints[q]? = some z := ⟨_, List.getElem?_eq_getElem (by rw [HN.out]; exact hlt)⟩
      obtain ⟨b, off, e, hb, hcell⟩ := HRC.out q z hz
      subst e
      have HZ := Lib.hid (HL.out z (List.mem_of_getElem? hz))
      have h0 := (HBW.out.cell (p := ⟨b, off + (q * 1 + 0), none⟩) hb).trans (hcell 0 _ rfl)
      simp only [Nat.mul_one, Nat.add_zero] at h0
      have HP : Hid (C.constraints.take (q + 1) = C.constraints.take q ++ [z]) := Lib.hid (by rw [List.take_add_one, hz]; rfl)
      have HMEM := Lib.hid (List.mem_of_getElem? hz)
      clear hcell hz
      have hcall := HIS.out wr z HBW.out HZ.out.1 HZ.out.2
      cases hlv : litV T z
      · rw [hlv] at hcall
        have HC := Lib.hid hcall
        have HR : Hid (r = false) := Lib.hid (by rw [HH.out, List.all_eq_false]; exact ⟨z, HMEM.out, by rw [hlv]; decide⟩)
        clear hcall hlv
        go_wp2_with (go_at_call 129; refine HC.out.mono ?_; rintro e w5 ⟨rfl, rfl⟩)
        go_ret
        exact ⟨ret_bool HR.out.symm, HBW.out⟩
      · rw [hlv] at hcall
        have HC := Lib.hid hcall
        have HR : Hid ((C.constraints.take (q + 1)).all (litV T) = true) := Lib.hid (by rw [HP.out, List.all_append, HAL.out]; simp [hlv])
        clear hcall hlv
        go_wp2_with (go_at_call 129; refine HC.out.mono ?_; rintro e w5 ⟨rfl, rfl⟩)
        go_roundg (n - (q + 1))
        case measure => omega
        case rel => exact ⟨q + 1, by omega, rfl, by go_num, HR.out, HBW.out⟩
    · have hqe : n = q := by omega
      subst hqe
      have HR : Hid (r = true) := Lib.hid (by
        have := HAL.out
        rw [List.take_of_length_le (by rw [HN.out]; exact Nat.le_refl _)] at this
        rw [HH.out]; exact this)
      clear hlt hq
      go_wp2
      go_ret
      exact ⟨ret_bool HR.out.symm, HBW.out⟩
end Go.Proofs.Ytilbgopdciiadaa

namespace Go.Proofs.Ytilbgopdciiadaa
open Go.RowKit

theorem slO_form {w : World} {v : Value} {t : List Bool} (h : RowE 1 encO w v t) : ∃ A n c, v = .slice A n c := by
  obtain ⟨A, c, e, _⟩ := h
  exact ⟨A, _, c, e⟩
end Go.Proofs.Ytilbgopdciiadaa

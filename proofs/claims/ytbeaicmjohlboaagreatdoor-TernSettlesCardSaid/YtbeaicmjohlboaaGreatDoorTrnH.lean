/- Tern: the contract of the call Lift. -/
import Derived.Test.YtbeaicmjohlboaaGreatDoorTrnF
namespace Go.Proofs.YtbeaicmjohlboaaGreatDoor
open Go.RowKit

def inLits (n : Nat) (l : Int) : Bool := decide (0 ≤ l) && decide (l / 2 < (n : Int))
/-- What is refused of literals. -/
def trueE (T lits : List Int) : Int := if 16384 < lits.length then 2 else if lits.all (inLits T.length) = true then (if ones3 T lits = true then 0 else 81) else 1
theorem inLits_iff {n : Nat} {l : Int} : inLits n l = true ↔ 0 ≤ l ∧ l / 2 < (n : Int) := by unfold inLits; simp
theorem trueE_long {T lits : List Int} (h : 16384 < lits.length) : trueE T lits = 2 := by unfold trueE; rw [if_pos h]
theorem trueE_range {T lits : List Int} (h : ¬ 16384 < lits.length) {k : Nat} {l : Int} (hk : lits[k]? = some l) (hl : inLits T.length l = false) : trueE T lits = 1 := by
  unfold trueE
  rw [if_neg h, if_neg]
  intro h2
  rw [List.all_eq_true] at h2
  rw [h2 l (List.mem_of_getElem? hk)] at hl
  cases hl
theorem trueE_false {T lits : List Int} (h : ¬ 16384 < lits.length) (hr : lits.all (inLits T.length) = true) {k : Nat} {l : Int} (hk : lits[k]? = some l) (hl : lit3 T l ≠ 1) : trueE T lits = 81 := by
  unfold trueE
  rw [if_neg h, if_pos hr, if_neg]
  unfold ones3
  intro h2
  rw [List.all_eq_true] at h2
  have := h2 l (List.mem_of_getElem? hk)
  simp at this
  exact hl this
theorem all_of_get {p : Int → Bool} {xs : List Int} {n : Nat} (hn : xs.length ≤ n) (h : ∀ k, k < n → ∀ l, xs[k]? = some l → p l = true) : xs.all p = true := by
  rw [List.all_eq_true]
  intro l hl
  obtain ⟨k, hk⟩ := List.getElem?_of_mem hl
  exact h k (Nat.lt_of_lt_of_le (List.getElem?_eq_some_iff.1 hk).1 hn) l hk
theorem trueE_ok {T lits : List Int} (h : ¬ 16384 < lits.length) (hr : lits.all (inLits T.length) = true) (ho : ones3 T lits = true) : trueE T lits = 0 := by unfold trueE; rw [if_neg h, if_pos hr, if_pos ho]
theorem trueE_zero {T lits : List Int} (h : trueE T lits = 0) : lits.length ≤ 16384 ∧ lits.all (inLits T.length) = true ∧ ones3 T lits = true := by
  unfold trueE at h
  by_cases h1 : 16384 < lits.length
  · rw [if_pos h1] at h; cases h
  · rw [if_neg h1] at h
    by_cases h2 : lits.all (inLits T.length) = true
    · rw [if_pos h2] at h
      by_cases h3 : ones3 T lits = true
      · exact ⟨by omega, h2, h3⟩
      · rw [if_neg h3] at h; cases h
    · rw [if_neg h2] at h; cases h

set_option maxHeartbeats 2000000 in
set_option maxRecDepth 100000 in
theorem allTrue_any (w : World) (vv lv : Value) (T lits : List Int) (htc : TabC w) (hv : RowE 1 encI w vv T) (h3 : Row3 T) (hT : T.length ≤ 20000) (hl : RowE 1 encI w lv lits) (h64 : ∀ l ∈ lits, l ≤ 9223372036854775807) :
    Calls Tryz.prog 60 #[vv, lv] w fun e w' => e = .returned (.int .i64 (trueE T lits)) ∧ w' = w := by
  have HVX := Lib.hid (fun (l : Int) (h0 : 0 ≤ l) (h1 : l / 2 < (T.length : Int)) => valueOf_any w vv T l htc hv (row3_at h3 _) h0 h1 (by omega))
  obtain ⟨vA, vn, vc, ev⟩ := slI_form hv
  obtain ⟨A, c, rfl, hlc, hcm, hr⟩ := hl
  have hvn : vn = T.length := by
    obtain ⟨A', c', e', _⟩ := hv
    rw [ev] at e'
    injection e'
  subst ev hvn
  have HR := Lib.hid hr
  have H64 := Lib.hid h64
  clear h64
  have hcm2 : c ≤ 9223372036854775807 := by unfold maxLen at hcm; omega
  clear hr hv htc h3 hcm
  by_cases hlong : 16384 < lits.length
  · have HE := Lib.hid (trueE_long (T := T) hlong)
    rw [HE.out]
    have hq : (16384 : Int) < (lits.length : Int) := by omega
    generalize lits.length = q at *
    clear hlong
    go_enter Tryz.func60, Tryz.ntmps60
    go_wp2
    go_ret
    exact ⟨rfl, rfl⟩
  · obtain ⟨E, hE⟩ : ∃ E, trueE T lits = E := ⟨_, rfl⟩
    have HE := Lib.hid hE
    have HLG := Lib.hid hlong
    rw [hE]
    obtain ⟨n, hn⟩ : ∃ n, lits.length = n := ⟨_, rfl⟩
    have HN := Lib.hid hn
    obtain ⟨m, hm⟩ : ∃ m, T.length = m := ⟨_, rfl⟩
    have HM := Lib.hid hm
    rw [hn] at hlong hlc ⊢
    rw [hm] at HVX hT ⊢
    have hq : ¬ (16384 : Int) < (n : Int) := by omega
    clear hE hn hm hlong
    go_enter Tryz.func60, Tryz.ntmps60
    go_wp2
    go_loopg [14] n (fun k j wx => ∃ q : Nat, q ≤ n ∧ k = n - q ∧ j = .int .i64 q ∧ wx = w ∧ ∀ i, i < q → ∀ l, lits[i]? = some l → inLits m l = true)
    case atStart => exact ⟨0, Nat.zero_le _, rfl, rfl, rfl, fun i hi => absurd hi (by omega)⟩
    case round =>
      obtain ⟨q, hq1, hgk, rfl, hwe, hall⟩ := hrel
      subst hwe
      subst hgk
      have HALL := Lib.hid hall
      clear hall
      by_cases hlt : q < n
      · obtain ⟨l, hx⟩ : ∃ x, lits[q]? = some x := ⟨_, List.getElem?_eq_getElem (by rw [HN.out]; exact hlt)⟩
        obtain ⟨g, off, e, hb, hcell⟩ := HR.out q l hx
        subst e
        have h0 := hcell 0 _ rfl
        simp only [Nat.mul_one, Nat.add_zero] at h0
        have hql : (q : Int) < (n : Int) := by omega
        have hql0 : (0 : Int) ≤ (q : Int) := by omega
        have HX := Lib.hid hx
        clear hcell hx
        by_cases l0 : l < 0
        · have HF : Hid (E = 1) := Lib.hid (by rw [← HE.out]; exact trueE_range HLG.out HX.out (by rw [HM.out]; unfold inLits; simp; omega))
          clear h0
          have h0 := (HR.out q l HX.out)
          obtain ⟨g', off', e, _, hcell⟩ := h0
          injection e with e
          injection e with e1 e2
          subst e1 e2
          have h0 := hcell 0 _ rfl
          simp only [Nat.mul_one, Nat.add_zero] at h0
          clear hcell
          go_wp2
          go_ret
          exact ⟨congrArg (fun x => Ending.returned (.int .i64 x)) HF.out.symm, rfl⟩
        · have hq2 := tdiv_nn (b := 2) (show 0 ≤ l by omega)
          have hq3 : IntKind.i64.wrap (l / 2) = l / 2 := by
            have := H64.out l (List.mem_of_getElem? HX.out)
            simp [IntKind.wrap, IntKind.bits, IntKind.signed]; omega
          by_cases l1 : l / 2 < (m : Int)
          · have l2 : ¬ (m : Int) ≤ l / 2 := by omega
            have HOK : Hid (inLits m l = true) := Lib.hid (inLits_iff.2 ⟨by omega, l1⟩)
            go_wp2
            go_roundg (n - (q + 1))
            case measure => omega
            case rel =>
              refine ⟨q + 1, by omega, rfl, by go_num, rfl, fun i hi l' hl' => ?_⟩
              by_cases e : i = q
              · subst e
                rw [HX.out] at hl'
                injection hl' with hl'
                rw [← hl']; exact HOK.out
              · exact HALL.out i (by omega) l' hl'
          · have l2 : (m : Int) ≤ l / 2 := by omega
            have HF : Hid (E = 1) := Lib.hid (by rw [← HE.out]; exact trueE_range HLG.out HX.out (by rw [HM.out]; unfold inLits; simp; omega))
            go_wp2
            go_ret
            exact ⟨congrArg (fun x => Ending.returned (.int .i64 x)) HF.out.symm, rfl⟩
      · have HRG : Hid (lits.all (inLits m) = true) := Lib.hid (all_of_get (n := n) (by rw [HN.out]; exact Nat.le_refl _) (fun k hk l hl => HALL.out k (by omega) l hl))
        clear HALL
        go_wp2
        go_loopg [30] n (fun k j wx => ∃ q : Nat, q ≤ n ∧ k = n - q ∧ j = .int .i64 q ∧ wx = wr ∧ ∀ i, i < q → ∀ l, lits[i]? = some l → lit3 T l = 1)
        case atStart => exact ⟨0, Nat.zero_le _, rfl, rfl, rfl, fun i hi => absurd hi (by omega)⟩
        case round =>
          obtain ⟨q, hq1, hgk, rfl, hwe, hall⟩ := hrel
          subst hwe
          subst hgk
          have HALL := Lib.hid hall
          clear hall
          by_cases hlt : q < n
          · obtain ⟨l, hx⟩ : ∃ x, lits[q]? = some x := ⟨_, List.getElem?_eq_getElem (by rw [HN.out]; exact hlt)⟩
            obtain ⟨g, off, e, hb, hcell⟩ := HR.out q l hx
            subst e
            have h0 := hcell 0 _ rfl
            simp only [Nat.mul_one, Nat.add_zero] at h0
            have hql : (q : Int) < (n : Int) := by omega
            have hql0 : (0 : Int) ≤ (q : Int) := by omega
            have HX := Lib.hid hx
            have hin := inLits_iff.1 ((List.all_eq_true.1 HRG.out) l (List.mem_of_getElem? hx))
            have HCV := Lib.hid (HVX.out l hin.1 (by exact hin.2))
            clear hcell hx hin
            by_cases hone : lit3 T l = 1
            · have HO := Lib.hid hone
              rw [hone] at HCV
              clear hone
              go_wp2_with (go_at_call 66; refine HCV.out.mono ?_; rintro e w5 ⟨rfl, rfl⟩)
              go_roundg (n - (q + 1))
              case measure => omega
              case rel =>
                refine ⟨q + 1, by omega, rfl, by go_num, rfl, fun i hi l' hl' => ?_⟩
                by_cases e : i = q
                · subst e
                  rw [HX.out] at hl'
                  injection hl' with hl'
                  rw [← hl']; exact HO.out
                · exact HALL.out i (by omega) l' hl'
            · have HF : Hid (E = 81) := Lib.hid (by rw [← HE.out]; exact trueE_false HLG.out (by rw [HM.out]; exact HRG.out) HX.out hone)
              obtain ⟨y, hy⟩ : ∃ y, lit3 T l = y := ⟨_, rfl⟩
              rw [hy] at HCV hone
              have hne : (y != 1) = true := by simpa using hone
              clear hone hy
              go_wp2_with (go_at_call 66; refine HCV.out.mono ?_; rintro e w5 ⟨rfl, rfl⟩)
              go_ret
              exact ⟨congrArg (fun x => Ending.returned (.int .i64 x)) HF.out.symm, rfl⟩
          · have HF : Hid (E = 0) := Lib.hid (by
              rw [← HE.out]
              refine trueE_ok HLG.out (by rw [HM.out]; exact HRG.out) (all_of_get (n := n) (by rw [HN.out]; exact Nat.le_refl _) (fun k hk l hl => ?_))
              simp only [decide_eq_true_eq]
              exact HALL.out k (by omega) l hl)
            go_wp2
            go_ret
            exact ⟨congrArg (fun x => Ending.returned (.int .i64 x)) HF.out.symm, rfl⟩

/-- The latches' values. -/
def rowF (C : Circ) (T : List Int) : List Int := C.latches.map fun z => T.getD (z.1 / 2).toNat 0
theorem rowF_len (C : Circ) (T : List Int) : (rowF C T).length = C.latches.length := by simp [rowF]
theorem rowF_at {C : Circ} {T : List Int} {k : Nat} {z : Tri} (h : C.latches[k]? = some z) : (rowF C T)[k]? = some (T.getD (z.1 / 2).toNat 0) := by simp [rowF, List.getElem?_map, h]
theorem rowF_val {C : Circ} {O L I : List Int} (h0 : (checkR C).2 = 0) (hO : IsOrd C O) (hL : L.length = C.latches.length) (hI : I.length = C.inputs.length) : rowF C (val3 C O L I) = L := by
  refine list_ext3 (n := C.latches.length) (rowF_len _ _) hL fun k hk => ?_
  obtain ⟨z, hz⟩ : ∃ z, C.latches[k]? = some z := ⟨_, List.getElem?_eq_getElem hk⟩
  rw [List.getD_eq_getElem?_getD, rowF_at hz]
  exact (valB h0 hO hL hI).l k z (L.getD k 0) hz (getD_int (by omega))

set_option maxHeartbeats 4000000 in
set_option maxRecDepth 100000 in
theorem rowOf_any (w : World) (V : CV) (C : Circ) (v : Value) (T : List Int) (h : C.In w V) (hrt : Right C) (hv : RowE 1 encI w v T) (hT : T.length = C.max.toNat + 1) :
    Calls Tryz.prog 19 #[V.val C.max, v] w fun e w' => ∃ g, e = .returned (.slice (some ⟨g, 0, none⟩) C.latches.length C.latches.length) ∧ w.heap.size ≤ g ∧ Below w.heap.size w w' ∧ Nums w' g (rowF C T) := by
  have hnl := hrt.nl
  have hm0 := hrt.m0
  have hm1 := hrt.m1
  have hmk := make_ints C.latches.length (by omega)
  have HL : Hid (∀ z ∈ C.latches, 0 ≤ z.1 ∧ z.1 / 2 < (T.length : Int)) := Lib.hid (fun z hz => by have := (hrt.l z hz).1; omega)
  have HVR := Lib.hid (fun (l : Int) (wx : World) (hb : Below w.heap.size w wx) (h0 : 0 ≤ l) (h1 : l / 2 < (T.length : Int)) => lit3_cell (hv.below hb) h0 h1)
  obtain ⟨AL, cL, eL, _, _, rL⟩ := h.l
  obtain ⟨Vi, Vl, Vo, Vb, Vc, Vj, Vf, Va, Vs, Vt⟩ := V
  simp only at eL
  subst eL
  obtain ⟨vA, vc, ev, _⟩ := hv
  subst ev
  have HRL := Lib.hid rL
  have HNX := Lib.hid (rowF_len C T)
  have HNA := Lib.hid (fun (k : Nat) (z : Tri) (hz : C.latches[k]? = some z) => rowF_at (T := T) hz)
  have HS0 : Hid (VT w ((w.alloc (.cells #[.int .i64 C.max, Vi, .slice AL C.latches.length cL, Vo, Vb, Vc, Vj, Vf, Va, Vs, Vt] 29)).alloc (.cells (madeCells #[Value.int .i64 0] C.latches.length) 3)) w.heap.size (w.heap.size + 1) #[.int .i64 C.max, Vi, .slice AL C.latches.length cL, Vo, Vb, Vc, Vj, Vf, Va, Vs, Vt] (List.replicate C.latches.length 0)) := by
    refine Lib.hid ⟨((Below.refl w.heap.size w).alloc (Nat.le_refl _) _).alloc (by simp) _, (Blk.new w _ _).alloc _, ?_⟩
    unfold Nums
    rw [← made_ints]
    have := Blk.new (w.alloc (.cells #[.int .i64 C.max, Vi, .slice AL C.latches.length cL, Vo, Vb, Vc, Vj, Vf, Va, Vs, Vt] 29)) 3 (madeCells #[Value.int .i64 0] C.latches.length)
    simpa using this
  obtain ⟨n, hn⟩ : ∃ n, C.latches.length = n := ⟨_, rfl⟩
  obtain ⟨m, hmm⟩ : ∃ m, C.max = m := ⟨_, rfl⟩
  obtain ⟨tl, htl⟩ : ∃ m, T.length = m := ⟨_, rfl⟩
  rw [hn] at HNX hnl HS0 hmk
  rw [hmm] at HS0 hm0 hm1 hT
  rw [htl] at HL HVR
  rw [hn, hmm, htl]
  rw [htl] at hT
  have HN := Lib.hid hn
  have HTLm : Hid (tl = m.toNat + 1) := Lib.hid hT
  clear rL h hrt hT hn hmm htl
  generalize rowF C T = N at *
  go_enter Tryz.func19, Tryz.ntmps19
  go_wp2
  go_loopg [15] n (fun k j wx => ∃ q : Nat, q ≤ n ∧ k = n - q ∧ j = .int .i64 q ∧ VT w wx w.heap.size (w.heap.size + 1) #[.int .i64 m, Vi, .slice AL n cL, Vo, Vb, Vc, Vj, Vf, Va, Vs, Vt] (N.take q ++ List.replicate (n - q) 0))
  case atStart => exact ⟨0, Nat.zero_le _, rfl, rfl, HS0.out⟩
  case round =>
    obtain ⟨q, hq, hgk, rfl, hst⟩ := hrel
    subst hgk
    have HST := Lib.hid hst
    clear hst
    by_cases hlt : q < n
    · obtain ⟨z, hz⟩ : ∃ z, C.latches[q]? = some z := ⟨_, List.getElem?_eq_getElem (by rw [HN.out]; exact hlt)⟩
      obtain ⟨b, off, e, hb, hcell⟩ := HRL.out q z hz
      subst e
      have HZ := Lib.hid (HL.out z (List.mem_of_getElem? hz))
      have HXZ := Lib.hid (HNA.out q z hz)
      obtain ⟨z0, z1, z2⟩ := z
      have h0 := (HST.out.below.cell (p := ⟨b, off + (q * 3 + 0), none⟩) hb).trans (hcell 0 _ rfl)
      have h1 := (HST.out.below.cell (p := ⟨b, off + (q * 3 + 1), none⟩) hb).trans (hcell 1 _ rfl)
      have h2 := (HST.out.below.cell (p := ⟨b, off + (q * 3 + 2), none⟩) hb).trans (hcell 2 _ rfl)
      simp only [Nat.add_zero, ← Nat.add_assoc] at h0 h1 h2
      obtain ⟨hz0, hz1⟩ := HZ.out
      simp only at hz0 hz1
      have hq2 := tdiv_nn (b := 2) hz0
      have hq3 : 0 ≤ z0 / 2 := by omega
      have hq4 : IntKind.i64.wrap (z0 / 2) = z0 / 2 := by have := HTLm.out; simp [IntKind.wrap, IntKind.bits, IntKind.signed]; omega
      have HSA := Lib.hid (HST.out.alloc (.cells #[.int .i64 z0, .int .i64 z1, .int .i64 z2] 43))
      obtain ⟨vb, voff, vc2, ev, hvc⟩ := HVR.out z0 _ HSA.out.below hz0 hz1
      injection ev with e1 e2 e3
      clear e2
      subst e1 e3
      have htl : q < (N.take q ++ List.replicate (n - q) 0).length := by rw [fill3_len HNX.out hq]; exact hlt
      have hold := Nums.cell HSA.out.tab (getD_int htl)
      have hfr := Blk.frozen HSA.out.tab q
      have hgb := Blk.lt HSA.out.tab
      clear hcell hz htl
      go_wp2
      go_roundg (n - (q + 1))
      case measure => omega
      case rel =>
        refine ⟨q + 1, by omega, rfl, by go_num, ?_⟩
        rw [← fill3_set HNX.out HXZ.out]
        exact HSA.out.set_ (by omega) (by omega) _ _
    · have hqe : n = q := by omega
      subst hqe
      have hend := HST.out
      rw [fill3_end HNX.out] at hend
      have HE := Lib.hid hend
      clear hend hlt hq
      go_wp2
      go_ret
      exact ⟨w.heap.size + 1, rfl, by omega, HE.out.below, HE.out.tab⟩
end Go.Proofs.YtbeaicmjohlboaaGreatDoor

namespace Go.Proofs.YtbeaicmjohlboaaGreatDoor
open Go.RowKit

def liftE (C : Circ) (O L I lits : List Int) : Int := if fit3 C L I = 0 then trueE (val3 C O L I) lits else fit3 C L I
def heldF (lits : List Int) (H : List Bool) : List Bool := lits.foldl (fun t l => t.set (l / 2).toNat true) H
theorem heldF_len : ∀ (lits : List Int) (H : List Bool), (heldF lits H).length = H.length
  | [], _ => rfl
  | l :: r, H => by
    show (heldF r (H.set (l / 2).toNat true)).length = _
    rw [heldF_len r]; simp
theorem heldF_snoc (lits : List Int) (l : Int) (H : List Bool) : heldF (lits ++ [l]) H = (heldF lits H).set (l / 2).toNat true := by simp [heldF, List.foldl_append]
theorem heldF_get : ∀ (lits : List Int) (H : List Bool), (∀ l ∈ lits, (l / 2).toNat < H.length) → ∀ v : Nat, (heldF lits H).getD v false = true ↔ (H.getD v false = true ∨ ∃ l ∈ lits, (l / 2).toNat = v)
  | [], H, _, v => by simp [heldF]
  | l :: r, H, h, v => by
    show (heldF r (H.set (l / 2).toNat true)).getD v false = true ↔ _
    rw [heldF_get r _ (fun x hx => by rw [List.length_set]; exact h x (by simp [hx])) v]
    by_cases e : (l / 2).toNat = v
    · have h1 : (H.set (l / 2).toNat true).getD v false = true := by subst e; exact getD_setE (h l (by simp))
      exact ⟨fun _ => .inr ⟨l, by simp, e⟩, fun _ => .inl h1⟩
    · rw [getD_setF e]
      constructor
      · rintro (q | ⟨x, hx, q⟩)
        · exact .inl q
        · exact .inr ⟨x, by simp [hx], q⟩
      · rintro (q | ⟨x, hx, q⟩)
        · exact .inl q
        · rcases List.mem_cons.1 hx with q2 | q2
          · subst q2; exact absurd q e
          · exact .inr ⟨x, q2, q⟩
section
variable {w0 wr : World} {S : SpB} {tv : Value} {T : List Int} {H : List Bool} {tr : List (Int × Int)} {us : List Value} {US : List (List Int)}
theorem SP.low {w : World} (h : SP w0 wr S tv T H tr us US) (hb : Below w.heap.size w w0) (hg : w.heap.size ≤ S.gv) : Below w.heap.size w wr :=
  hb.grown h.grown hb.size (fun k hk => by injection hk with hk; omega)
theorem low_of {w wz : World} {gv : Nat} (h : w0.grownBy wz (some gv)) (hb : Below w.heap.size w w0) (hg : w.heap.size ≤ gv) : Below w.heap.size w wz :=
  hb.grown h hb.size (fun k hk => by injection hk with hk; omega)
/-- One variable more is held. -/
theorem SP.setHeld (h : SP w0 wr S tv T H tr us US) (v : Nat) (b : Bool) : SP w0 (wr.setCell ⟨S.gh, v, none⟩ (.bool b)) S tv T (H.set v b) tr us US := by
  have hgh := h.hgh
  have hgv := h.hgv
  have key : ∀ {t : TypeId} {k n : Nat} {v' : Value} {xs : List Value}, t ≠ 4 → wr.ownsRow w0.heap.size t k v' n xs → (wr.setCell ⟨S.gh, v, none⟩ (.bool b)).ownsRow w0.heap.size t k v' n xs := fun hne ho => own_setQ ho _ _ (fun g hg e => own_blk_ne ho h.held hne (by rw [hg]; exact congrArg some e))
  have hbs : S.bs ≠ S.gh := fun e => by
    have h1 : wr.heap[S.bs]? = some (.cells (S.cells tv) 55 (0, 0)) := h.box
    have h2 : wr.heap[S.gh]? = some (.cells (H.map Value.bool).toArray 4 (0, 0)) := h.held
    rw [e, h2] at h1
    injection h1 with h1
    injection h1 with _ h1 _
    exact absurd h1 (by decide)
  refine ⟨⟨h.grown.os, h.grown.tape, h.grown.output, by have := h.grown.size; simpa using this, fun k hk hne => (Below.heap_setCell _ _ _ _ (by simp only; omega)).trans (h.grown.block k hk hne)⟩, hgv, h.hbs, hgh, h.tl, by simp [h.hl], h.ul, Blk.far h.val (by simp only; omega) _, Tab.set_ h.held v b, Blk.far h.box (by simpa using hbs) _, key (by decide) h.trail, ⟨h.users.ul, key (by decide) h.users.own, fun i u zs hu hz => key (by decide) (h.users.each i u zs hu hz)⟩⟩
end
/-- What stands between two latches of Lift. -/
structure LF (w0 wx : World) (S : SpB) (C : Circ) (O L I lits : List Int) (H : List Bool) (us : List Value) (US : List (List Int)) (q : Nat) : Prop where
  ex : ∃ (tv : Value) (T : List Int) (tr : List (Int × Int)), SP w0 wx S tv T H tr us US ∧ T = val3 C O (liftN C O I lits L q) I ∧ Trl T tr ∧ ones3 T lits = true
theorem LF.next {w0 wx w1 : World} {S : SpB} {C : Circ} {O L I lits : List Int} {H : List Bool} {us : List Value} {US : List (List Int)} {q : Nat} {T : List Int} {tr : List (Int × Int)} (h0 : (checkR C).2 = 0) (hO : IsOrd C O) (hL : L.length = C.latches.length) (hI : I.length = C.inputs.length)
    (hH : ∀ v : Nat, H.getD v false = true ↔ ∃ l ∈ lits, (l / 2).toNat = v) (hq : q < C.latches.length) (hT : T = val3 C O (liftN C O I lits L q) I) (ho : ones3 T lits = true) (h : LoosePost w0 wx w1 S C T (val3 C O ((liftN C O I lits L q).set q 2) I) H tr us US) : LF w0 w1 S C O L I lits H us US (q + 1) := by
  obtain ⟨_, tv', T', tr', hsp, htr, hc⟩ := h
  have hLq : (liftN C O I lits L q).length = C.latches.length := by rw [liftN_len, hL]
  have hup : ∀ v, Le3 (T.getD v 0) ((val3 C O ((liftN C O I lits L q).set q 2) I).getD v 0) := by
    rw [hT]
    exact val3_le h0 hO hLq (by simp [hLq]) hI hI (fun k => set_le3 (by rw [hLq]; exact hq)) (fun _ => .inl rfl)
  have hsame := ones_same ho hup hH
  refine ⟨tv', T', tr', hsp, ?_, htr, ?_⟩
  · rw [liftN_succ]
    unfold lift1
    rcases hc with ⟨c1, c2, _⟩ | ⟨⟨v, c1, c2⟩, c3, _⟩
    · rw [if_pos (hsame.2 c1)]; exact c2
    · rw [if_neg (fun hh => c2 (hsame.1 hh v c1)), c3]; exact hT
  · rcases hc with ⟨c1, c2, _⟩ | ⟨_, c3, _⟩
    · rw [c2]; exact hsame.2 c1
    · rw [c3]; exact ho
theorem row3_lift {C : Circ} {O L I lits : List Int} (h : Row3 L) : ∀ q, Row3 (liftN C O I lits L q)
  | 0 => h
  | q + 1 => by
    rw [liftN_succ]
    unfold lift1
    split
    · exact row3_set (row3_lift h q) _ (.inr (.inr rfl))
    · exact row3_lift h q

set_option maxHeartbeats 8000000 in
set_option maxRecDepth 100000 in
theorem tLift_any (w : World) (V : CV) (C : Circ) (sv rv lv : Value) (L I lits O : List Int) (h : C.In w V) (ok : C.Ok) (htc : TabC w) (hs : RowE 1 encI w sv L) (hr : RowE 1 encI w rv I) (hl : RowE 1 encI w lv lits) (h64 : ∀ l ∈ lits, l ≤ 9223372036854775807) (hO : (checkR C).2 = 0 → IsOrd C O) :
    Calls Tryz.prog 27 #[V.val C.max, sv, rv, lv] w fun e w' => Below w.heap.size w w' ∧ ∃ v, e = .returned (.tuple #[v, .int .i64 (liftE C O L I lits)]) ∧ (liftE C O L I lits ≠ 0 → v = .slice none 0 0) ∧
      (liftE C O L I lits = 0 → ∃ g, v = .slice (some ⟨g, 0, none⟩) C.latches.length C.latches.length ∧ w.heap.size ≤ g ∧ Nums w' g (lift3 C O I lits L)) := by
  have HVAL := Lib.hid (fun (wx : World) (ht : TabC wx) (hx : C.In wx V) (hy : RowE 1 encI wx sv L) (hz : RowE 1 encI wx rv I) => tValues_any wx V C sv rv L I O hx ok ht hy hz hO)
  have hall : ∀ wz, Below (w.alloc (.cells (V.cells C.max) 29)).heap.size (w.alloc (.cells (V.cells C.max) 29)) wz → Blk wz w.heap.size 29 (V.cells C.max) ∧ C.In wz V ∧ RowE 1 encI wz sv L ∧ RowE 1 encI wz rv I ∧ RowE 1 encI wz lv lits ∧ Below w.heap.size w wz := fun wz hb => by
    have h1 : Below w.heap.size w wz := ((Below.refl w.heap.size w).alloc (Nat.le_refl _) _).trans (hb.mono (by simp))
    exact ⟨(Blk.new w _ _).below hb (by simp), h.below h1, hs.below h1, hr.below h1, hl.below h1, h1⟩
  have HX : Hid (Below (w.alloc (.cells (V.cells C.max) 29)).heap.size (w.alloc (.cells (V.cells C.max) 29)) (w.alloc (.cells (V.cells C.max) 29))) := Lib.hid (Below.refl _ _)
  have HTC := Lib.hid htc
  have HIN := Lib.hid h
  have HLR := Lib.hid hl
  have hll := hl.len
  obtain ⟨AL, cL, eL, _, _, rL⟩ := h.l
  have HRL := Lib.hid rL
  obtain ⟨AA, nA, cA, eA⟩ : ∃ A n c, V.a = .slice A n c := by obtain ⟨A, c, e, _⟩ := h.a; exact ⟨A, _, c, e⟩
  obtain ⟨sA, sn, sc, esv⟩ := slI_form hs
  obtain ⟨rA, rn, rc, erv⟩ := slI_form hr
  obtain ⟨lA, lc, elv, _, _, rl⟩ := hl
  have HRLT := Lib.hid rl
  by_cases h0 : fit3 C L I = 0
  · have hck := (fit3_ok h0).1
    have hrt := right_of hck
    have hord := hO hck
    have HFT := Lib.hid (fit3_ok h0)
    have HT3 := Lib.hid (row3_val (C := C) (gs := O) (fit3_ok h0).2.1.2 (fit3_ok h0).2.2.2)
    have HAT := Lib.hid (fun (wx : World) (g : Nat) (ht : TabC wx) (hT : Nums wx g (val3 C O L I)) (hl' : RowE 1 encI wx lv lits) => allTrue_any wx _ lv (val3 C O L I) lits ht (by have h9 := nums_row hT (by rw [val3_len]; have := hrt.m1; unfold maxLen; omega); rw [val3_len] at h9; exact h9) HT3.out (by rw [val3_len]; have := hrt.m1; omega) hl' h64)
    have HLE : Hid (liftE C O L I lits = trueE (val3 C O L I) lits) := Lib.hid (by unfold liftE; rw [if_pos h0])
    have HNS := Lib.hid (fun (wx : World) (gv : Nat) (hx : C.In wx V) (hT : Nums wx gv (val3 C O L I)) => newSpread_any wx V C gv (val3 C O L I) hx hrt hT (val3_len C O L I))
    have HRO := Lib.hid (fun (wx : World) (vv : Value) (T : List Int) (hx : C.In wx V) (hv : RowE 1 encI wx vv T) (hT : T.length = C.max.toNat + 1) => rowOf_any wx V C vv T hx hrt hv hT)
    have HCK := Lib.hid hck
    have HRT := Lib.hid hrt
    have HORD := Lib.hid hord
    rw [HLE.out]
    rw [h0] at HVAL
    clear hck hrt hord h0 hO h hs hr rL htc rl h64
    obtain ⟨Vi, Vl, Vo, Vb, Vc, Vj, Vf, Va, Vs, Vt⟩ := V
    simp only at eL eA
    subst eL eA esv erv elv
    obtain ⟨m, hmm⟩ : ∃ m, C.max = m := ⟨_, rfl⟩
    obtain ⟨nL, hnL⟩ : ∃ n, C.latches.length = n := ⟨_, rfl⟩
    obtain ⟨n, hn⟩ : ∃ n, m.toNat + 1 = n := ⟨_, rfl⟩
    obtain ⟨k, hk⟩ : ∃ k, lits.length = k := ⟨_, rfl⟩
    rw [hmm, hnL, hk] at hall
    rw [hmm, hnL] at HX
    rw [hmm, hnL, hn] at HVAL HNS
    rw [hmm, hn, hk] at HAT
    rw [hmm, hnL, hn] at HRO
    rw [hnL] at HIN
    rw [hk] at HLR
    rw [hmm, hnL, hk]
    have HMM := Lib.hid (And.intro hmm (And.intro hnL (And.intro hn hk)))
    have HALL := Lib.hid hall
    clear hall hmm hnL hn hk hll
    obtain ⟨c0, c1, c2, c3, c4, c5, c6, c7, c8, c9, c10⟩ := rbox_of (HALL.out _ HX.out).1
    obtain ⟨E, hE⟩ : ∃ E, trueE (val3 C O L I) lits = E := ⟨_, rfl⟩
    rw [hE] at HAT ⊢
    by_cases hE0 : E = 0
    · subst hE0
      have HEZ := Lib.hid (trueE_zero hE)
      clear hE
      go_enter Tryz.func27, Tryz.ntmps27
      go_upto_region 8 with (first
        | (go_at_call 15; refine (HVAL.out _ (HTC.out.below (HALL.out _ HX.out).2.2.2.2.2) (HALL.out _ HX.out).2.1 (HALL.out _ HX.out).2.2.1 (HALL.out _ HX.out).2.2.2.1).mono ?_; rintro e wV ⟨hb, v1, rfl, _, hyes⟩; obtain ⟨g, rfl, hg1, ht1⟩ := hyes rfl; have HG1 := Lib.hid (Nat.le_trans (HALL.out _ HX.out).2.2.2.2.2.size hg1); have HT1 := Lib.hid ht1; clear hyes hg1 ht1; have HXN := Lib.hid (bt HX.out (Nat.le_refl _) hb); clear HX hb c0 c1 c2 c3 c4 c5 c6 c7 c8 c9 c10; have HX := HXN; clear HXN; obtain ⟨c0, c1, c2, c3, c4, c5, c6, c7, c8, c9, c10⟩ := rbox_of (HALL.out _ HX.out).1)
        | (go_at_call 60; refine (HAT.out _ _ (HTC.out.below (HALL.out _ HX.out).2.2.2.2.2) HT1.out (HALL.out _ HX.out).2.2.2.2.1).mono ?_; rintro e w1 ⟨rfl, rfl⟩)
        | (go_at_call 17; refine (HNS.out _ g (HALL.out _ HX.out).2.1 HT1.out).mono ?_; rintro e w2 ⟨bs, gh, uV, us, rfl, hb2, hsp⟩; have HSP := Lib.hid hsp; have HGV := Lib.hid (show Below w1.heap.size w1 w2 from hb2); clear hb2 hsp))
      have HLOW : Hid (∀ wz, w1.grownBy wz (some g) → Blk wz w.heap.size 29 #[.int .i64 m, Vi, .slice AL nL cL, Vo, Vb, Vc, Vj, Vf, .slice AA nA cA, Vs, Vt] ∧ Below w.heap.size w wz) := Lib.hid (fun wz hg => by
        have hbx := (HALL.out _ HX.out).1
        have hne : w.heap.size ≠ g := fun e => by
          have h1 : w1.heap[w.heap.size]? = some (Obj.cells #[.int .i64 m, Vi, .slice AL nL cL, Vo, Vb, Vc, Vj, Vf, .slice AA nA cA, Vs, Vt] 29 (0, 0)) := hbx
          have h2 : w1.heap[g]? = some (Obj.cells ((val3 C O L I).map (Value.int .i64)).toArray 3 (0, 0)) := HT1.out
          rw [e, h2] at h1
          injection h1 with h1
          injection h1 with _ h1 _
          exact absurd h1 (by decide)
        exact ⟨hbx.grown hg (fun e => hne (by injection e)), low_of hg (HALL.out _ HX.out).2.2.2.2.2 HG1.out⟩)
      clear c0 c1 c2 c3 c4 c5 c6 c7 c8 c9 c10
      go_wp2
      go_loopg [39] k (fun j iv wx => ∃ q : Nat, q ≤ k ∧ iv = .int .i64 q ∧ j = k - q ∧ SP w1 wx ⟨bs, g, gh, n, .slice AA nA cA, uV⟩ (.slice none 0 0) (val3 C O L I) (heldF (lits.take q) (List.replicate n false)) [] us (usersN C n C.ands.length))
      case atStart => exact ⟨0, Nat.zero_le _, rfl, rfl, HSP.out⟩
      case round =>
        obtain ⟨q, hq, rfl, hgk, hsp⟩ := hrel
        subst hgk
        have HSQ := Lib.hid hsp
        clear HSP
        obtain ⟨x0, x1, x2, x3, x4⟩ := hsp.sp_cells
        have hlow := (HLOW.out _ hsp.grown).2
        simp only at x0 x1 x2 x3 x4
        clear hsp
        by_cases hlt : q < k
        · obtain ⟨l, hx⟩ : ∃ x, lits[q]? = some x := ⟨_, List.getElem?_eq_getElem (by rw [HMM.out.2.2.2]; exact hlt)⟩
          obtain ⟨lb, loff, e, hlb, hcell⟩ := HRLT.out q l hx
          subst e
          have k0 := (hlow.cell (p := ⟨lb, loff + (q * 1 + 0), none⟩) hlb).trans (hcell 0 _ rfl)
          simp only [Nat.mul_one, Nat.add_zero] at k0
          have hin := inLits_iff.1 ((List.all_eq_true.1 HEZ.out.2.1) l (List.mem_of_getElem? hx))
          rw [val3_len, HMM.out.1, HMM.out.2.2.1] at hin
          obtain ⟨hl0, hl1⟩ := hin
          have hq2 := tdiv_nn (b := 2) hl0
          have hq3 : 0 ≤ l / 2 := by omega
          have hnn : n ≤ 20000 := by have h1 := HRT.out.m1; have h2 := HMM.out.1; have h3 := HMM.out.2.2.1; omega
          have hq4 : IntKind.i64.wrap (l / 2) = l / 2 := by simp [IntKind.wrap, IntKind.bits, IntKind.signed]; omega
          have hk9 : k ≤ 16384 := by have h1 := HEZ.out.1; have h2 := HMM.out.2.2.2; omega
          have hql : (q : Int) < (k : Int) := by omega
          have hql0 : (0 : Int) ≤ (q : Int) := by omega
          have HTK : Hid (lits.take (q + 1) = lits.take q ++ [l]) := Lib.hid (by rw [List.take_add_one, hx]; rfl)
          have hhl : (l / 2).toNat < (heldF (lits.take q) (List.replicate n false)).length := by rw [heldF_len, List.length_replicate]; omega
          have z1 := Tab.cell HSQ.out.held (getD_bool hhl)
          have z2 := Blk.frozen HSQ.out.held (l / 2).toNat
          have z3 := Blk.lt HSQ.out.held
          simp only at z1 z2 z3
          clear hcell hx hhl
          go_wp2
          go_roundg (k - (q + 1))
          case measure => omega
          case rel =>
            refine ⟨q + 1, by omega, by go_num, rfl, ?_⟩
            rw [HTK.out, heldF_snoc]
            exact HSQ.out.setHeld _ true
        · have HTK : Hid (lits.take q = lits) := Lib.hid (List.take_of_length_le (by rw [HMM.out.2.2.2]; omega))
          rw [HTK.out] at HSQ
          have hrange : ∀ l ∈ lits, (l / 2).toNat < n := fun l hl => by
            have hin := inLits_iff.1 ((List.all_eq_true.1 HEZ.out.2.1) l hl)
            rw [val3_len, HMM.out.1, HMM.out.2.2.1] at hin
            omega
          have HHF : Hid (∀ v : Nat, (heldF lits (List.replicate n false)).getD v false = true ↔ ∃ l ∈ lits, (l / 2).toNat = v) := Lib.hid (fun v => by
            rw [heldF_get lits _ (fun l hl => by rw [List.length_replicate]; exact hrange l hl) v]
            have : (List.replicate n false).getD v false = false := by by_cases hv : v < n <;> simp [List.getD, hv]
            rw [this]; simp)
          have HUS : Hid (∀ v, v < n → IsUsers C v ((usersN C n C.ands.length).getD v [])) := Lib.hid (fun v hv => usersN_is (fun z hz => by
            have h1 := HRT.out.a z hz
            unfold LitOk at h1
            have h2 := HMM.out.1
            have h3 := HMM.out.2.2.1
            omega) hv)
          obtain ⟨H, hH⟩ : ∃ H, heldF lits (List.replicate n false) = H := ⟨_, rfl⟩
          rw [hH] at HHF HSQ
          have HLF0 : Hid (LF w1 wr ⟨bs, g, gh, n, .slice AA nA cA, uV⟩ C O L I lits H us (usersN C n C.ands.length) 0) := Lib.hid ⟨_, _, _, HSQ.out, rfl, Trl.nil _, HEZ.out.2.2⟩
          have hbx := (HLOW.out _ HSQ.out.grown).1
          obtain ⟨c0, c1, c2, c3, c4, c5, c6, c7, c8, c9, c10⟩ := rbox_of hbx
          have hlt2 : ¬ (q : Int) < (k : Int) := by omega
          clear hH hlt hq x0 x1 x2 x3 x4 hlow hbx
          go_wp2
          go_loopg [54] nL (fun j iv wx => ∃ q : Nat, q ≤ nL ∧ iv = .int .i64 q ∧ j = nL - q ∧ LF w1 wx ⟨bs, g, gh, n, .slice AA nA cA, uV⟩ C O L I lits H us (usersN C n C.ands.length) q)
          case atStart => exact ⟨0, Nat.zero_le _, rfl, rfl, HLF0.out⟩
          case round =>
            obtain ⟨q, hq, rfl, hgk, hlf⟩ := hrel
            subst hgk
            clear HLF0 HSQ c0 c1 c2 c3 c4 c5 c6 c7 c8 c9 c10
            obtain ⟨tv, T, tr, hsp, hT, htr, ho⟩ := hlf.ex
            have HSQ := Lib.hid hsp
            have HTT := Lib.hid (And.intro hT (And.intro htr ho))
            obtain ⟨x0, x1, x2, x3, x4⟩ := hsp.sp_cells
            have hlow := (HLOW.out _ hsp.grown).2
            have hbx := (HLOW.out _ hsp.grown).1
            obtain ⟨c0, c1, c2, c3, c4, c5, c6, c7, c8, c9, c10⟩ := rbox_of hbx
            simp only at x0 x1 x2 x3 x4
            have HLFQ := Lib.hid hlf
            clear hsp hT htr ho hlf
            by_cases hlt : q < nL
            · obtain ⟨z, hz⟩ : ∃ z, C.latches[q]? = some z := ⟨_, List.getElem?_eq_getElem (by rw [HMM.out.2.1]; exact hlt)⟩
              obtain ⟨b, off, e, hlb, hcell⟩ := HRL.out q z hz
              subst e
              have hzl := (HRT.out.l z (List.mem_of_getElem? hz)).1
              obtain ⟨z0, z1, z2⟩ := z
              simp only at hzl
              have h0 := (hlow.cell (p := ⟨b, off + (q * 3 + 0), none⟩) hlb).trans (hcell 0 _ rfl)
              have h1 := (hlow.cell (p := ⟨b, off + (q * 3 + 1), none⟩) hlb).trans (hcell 1 _ rfl)
              have h2 := (hlow.cell (p := ⟨b, off + (q * 3 + 2), none⟩) hlb).trans (hcell 2 _ rfl)
              simp only [Nat.add_zero, ← Nat.add_assoc] at h0 h1 h2
              have hz0 : 0 ≤ z0 := by omega
              have hnL9 : nL ≤ 16384 := by have h1 := HRT.out.nl; have h2 := HMM.out.2.1; omega
              have hq2 := tdiv_nn (b := 2) hz0
              have hq3 : 0 ≤ z0 / 2 := by omega
              have hq4 : IntKind.i64.wrap (z0 / 2) = z0 / 2 := by have := HRT.out.m1; simp [IntKind.wrap, IntKind.bits, IntKind.signed]; omega
              have hbA : Below wr.heap.size wr (wr.alloc (.cells #[.int .i64 z0, .int .i64 z1, .int .i64 z2] 43)) := (Below.refl _ _).alloc (Nat.le_refl _) _
              have hls := sLoosen_any w1 _ _ _ C O (liftN C O I lits L q) I T H tr us _ q (z0, z1, z2) (z0 / 2).toNat (HSQ.out.on hbA) HCK.out HORD.out (by rw [liftN_len]; exact HFT.out.2.1.1) HFT.out.2.2.1 (row3_lift HFT.out.2.1.2 q) HFT.out.2.2.2 HTT.out.1 HTT.out.2.1 hz rfl HUS.out (fun wz hg => by
                have h9 := (HLOW.out wz hg).2
                exact ⟨(HIN.out.below h9).a, HTC.out.below h9⟩)
              rw [show (((z0 / 2).toNat : Nat) : Int) = z0 / 2 by omega] at hls
              have HLS := Lib.hid hls
              clear hcell hz hls hbA
              go_wp2_with (go_at_call 36; refine HLS.out.mono ?_; rintro e w6 ⟨rfl, hlp⟩; have HLN := Lib.hid (LF.next HCK.out HORD.out HFT.out.2.1.1 HFT.out.2.2.1 HHF.out (by rw [HMM.out.2.1]; exact hlt) HTT.out.1 HTT.out.2.2 hlp); clear hlp)
              go_roundg (nL - (q + 1))
              case measure => omega
              case rel => exact ⟨q + 1, by omega, by go_num, rfl, HLN.out⟩
            · have hqe : q = nL := by omega
              have HROW : Hid (rowF C T = lift3 C O I lits L) := Lib.hid (by
                rw [HTT.out.1, rowF_val HCK.out HORD.out (by rw [liftN_len]; exact HFT.out.2.1.1) HFT.out.2.2.1, hqe]
                unfold lift3 liftN
                rw [HFT.out.2.1.1, HMM.out.2.1])
              have hcall := HRO.out wr.drew (.slice (some ⟨g, 0, none⟩) n n) T (HIN.out.below hlow.drew) (by have h9 := nums_row (Blk.drew HSQ.out.val) (by have h1 := HSQ.out.tl; have h2 := HRT.out.m1; have h3 := HMM.out.1; have h4 := HMM.out.2.2.1; simp only at h1; rw [h1]; unfold maxLen; omega); have h1 := HSQ.out.tl; simp only at h1 h9; rw [h1] at h9; exact h9) (by have h1 := HSQ.out.tl; have h4 := HMM.out.2.2.1; simp only at h1; omega)
              rw [HROW.out] at hcall
              have HCALL := Lib.hid hcall
              have HDR : Hid (Below w.heap.size w wr.drew) := Lib.hid hlow.drew
              have HDB : Hid (∀ wz, Below wr.drew.heap.size wr.drew wz → Blk wz w.heap.size 29 #[.int .i64 m, Vi, .slice AL nL cL, Vo, Vb, Vc, Vj, Vf, .slice AA nA cA, Vs, Vt] ∧ wz.cell? ⟨bs, 2, none⟩ = some (.slice (some ⟨g, 0, none⟩) n n)) := Lib.hid (fun wz hb => ⟨(hbx.drew).below hb hbx.lt, (HSQ.out.on ((Below.refl _ _).drew)).on hb |>.sp_cells.2.2.1⟩)
              have hlt2 : ¬ (q : Int) < (nL : Int) := by omega
              clear hcall hqe hlt hq hlow hbx
              go_upto_region 18 with (fail)
              have HB0 : Hid (Below wr.drew.heap.size wr.drew wr.drew) := Lib.hid (Below.refl _ _)
              go_region_held3 (fun w' => (w'.cell? ⟨w.heap.size, 0, none⟩ = some (.int .i64 m) ∧ w'.cell? ⟨w.heap.size, 1, none⟩ = some Vi ∧ w'.cell? ⟨w.heap.size, 2, none⟩ = some (.slice AL nL cL) ∧ w'.cell? ⟨w.heap.size, 3, none⟩ = some Vo ∧ w'.cell? ⟨w.heap.size, 4, none⟩ = some Vb ∧ w'.cell? ⟨w.heap.size, 5, none⟩ = some Vc ∧ w'.cell? ⟨w.heap.size, 6, none⟩ = some Vj ∧ w'.cell? ⟨w.heap.size, 7, none⟩ = some Vf ∧ w'.cell? ⟨w.heap.size, 8, none⟩ = some (.slice AA nA cA) ∧ w'.cell? ⟨w.heap.size, 9, none⟩ = some Vs ∧ w'.cell? ⟨w.heap.size, 10, none⟩ = some Vt) ∧ w'.cell? ⟨bs, 2, none⟩ = some (.slice (some ⟨g, 0, none⟩) n n))
                (first | exact ⟨rbox_of (HDB.out _ HB0.out).1, (HDB.out _ HB0.out).2⟩ | exact ⟨rbox_of (HDB.out _ HB6.out).1, (HDB.out _ HB6.out).2⟩ | go_keep)
                (first | (go_at_call 19; refine HCALL.out.mono ?_; rintro e w6 ⟨g6, rfl, hg6, hb6, ht6⟩; have HB6 := Lib.hid hb6; have HG6 := Lib.hid (And.intro (Nat.le_trans HDR.out.size hg6) ht6); clear hg6 hb6 ht6))
              go_wp2
              go_ret2
              exact ⟨bt HDR.out (Nat.le_refl _) HB6.out, _, rfl, fun h => absurd rfl h, fun _ => ⟨g6, rfl, HG6.out.1, HG6.out.2⟩⟩
    · have hq : (E != 0) = true := by simpa using hE0
      have HE0 := Lib.hid hE0
      clear hE hE0
      go_enter Tryz.func27, Tryz.ntmps27
      go_wp2_with (first
        | (go_at_call 15; refine (HVAL.out _ (HTC.out.below (HALL.out _ HX.out).2.2.2.2.2) (HALL.out _ HX.out).2.1 (HALL.out _ HX.out).2.2.1 (HALL.out _ HX.out).2.2.2.1).mono ?_; rintro e wV ⟨hb, v1, rfl, _, hyes⟩; obtain ⟨g, rfl, hg1, ht1⟩ := hyes rfl; have HG1 := Lib.hid (Nat.le_trans (HALL.out _ HX.out).2.2.2.2.2.size hg1); have HT1 := Lib.hid ht1; clear hyes hg1 ht1; have HXN := Lib.hid (bt HX.out (Nat.le_refl _) hb); clear HX hb c0 c1 c2 c3 c4 c5 c6 c7 c8 c9 c10; have HX := HXN; clear HXN; obtain ⟨c0, c1, c2, c3, c4, c5, c6, c7, c8, c9, c10⟩ := rbox_of (HALL.out _ HX.out).1)
        | (go_at_call 60; refine (HAT.out _ _ (HTC.out.below (HALL.out _ HX.out).2.2.2.2.2) HT1.out (HALL.out _ HX.out).2.2.2.2.1).mono ?_; rintro e w1 ⟨rfl, rfl⟩))
      go_ret2
      exact ⟨(HALL.out _ HX.out).2.2.2.2.2, _, rfl, fun _ => rfl, fun h => absurd h HE0.out⟩
  · have HLE : Hid (liftE C O L I lits = fit3 C L I) := Lib.hid (by unfold liftE; rw [if_neg h0])
    rw [HLE.out]
    obtain ⟨r, hrr⟩ : ∃ r, fit3 C L I = r := ⟨_, rfl⟩
    rw [hrr] at HVAL h0 ⊢
    have hq : (r != 0) = true := by simpa using h0
    have H0 := Lib.hid h0
    clear h0 hrr hO h hs hr rL htc rl h64
    obtain ⟨Vi, Vl, Vo, Vb, Vc, Vj, Vf, Va, Vs, Vt⟩ := V
    simp only at eL eA
    subst eL eA esv erv elv
    obtain ⟨m, hmm⟩ : ∃ m, C.max = m := ⟨_, rfl⟩
    rw [hmm] at hall HX HVAL
    rw [hmm]
    have HALL := Lib.hid hall
    clear hall hmm hll
    obtain ⟨c0, c1, c2, c3, c4, c5, c6, c7, c8, c9, c10⟩ := rbox_of (HALL.out _ HX.out).1
    go_enter Tryz.func27, Tryz.ntmps27
    go_wp2_with (go_at_call 15; refine (HVAL.out _ (HTC.out.below (HALL.out _ HX.out).2.2.2.2.2) (HALL.out _ HX.out).2.1 (HALL.out _ HX.out).2.2.1 (HALL.out _ HX.out).2.2.2.1).mono ?_; rintro e w1 ⟨hb, v1, rfl, hno, _⟩; obtain rfl := hno H0.out; clear hno; have HXN := Lib.hid (bt HX.out (Nat.le_refl _) hb); clear HX hb c0 c1 c2 c3 c4 c5 c6 c7 c8 c9 c10; have HX := HXN; clear HXN; obtain ⟨c0, c1, c2, c3, c4, c5, c6, c7, c8, c9, c10⟩ := rbox_of (HALL.out _ HX.out).1)
    go_ret2
    exact ⟨(HALL.out _ HX.out).2.2.2.2.2, _, rfl, fun _ => rfl, fun h => absurd h H0.out⟩
end Go.Proofs.YtbeaicmjohlboaaGreatDoor

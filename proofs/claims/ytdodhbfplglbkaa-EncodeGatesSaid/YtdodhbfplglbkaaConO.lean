/- Cone: the contracts of the document's lits, Support and Inputs. -/
import Derived.Test.YtdodhbfplglbkaaConC
import Derived.Test.YtdodhbfplglbkaaTrnF
import Derived.Test.YtdodhbfplglbkaaConE
import Derived.Test.YtdodhbfplglbkaaRfO
import Derived.BigQuiet
import Derived.Deep.Quiet
namespace Go.Proofs.Ytdodhbfplglbkaa
open Go.RowKit Go.Maps

/-- How many are not there yet. -/
def cf : List Bool → Nat
  | [] => 0
  | b :: r => (if b = true then 0 else 1) + cf r
theorem cf_set_le : ∀ (A : List Bool) (i : Nat), cf (A.set i true) ≤ cf A
  | [], _ => Nat.le_refl _
  | b :: r, 0 => by
    show (if true = true then 0 else 1) + cf r ≤ (if b = true then 0 else 1) + cf r
    simp
  | b :: r, i + 1 => by
    have := cf_set_le r i
    show (if b = true then 0 else 1) + cf (r.set i true) ≤ (if b = true then 0 else 1) + cf r
    omega
theorem cf_set_lt : ∀ (A : List Bool) (i : Nat), A[i]? = some false → cf (A.set i true) < cf A
  | [], _, h => by simp at h
  | b :: r, 0, h => by
    simp at h
    subst h
    show (if true = true then 0 else 1) + cf r < (if false = true then 0 else 1) + cf r
    simp
  | b :: r, i + 1, h => by
    have := cf_set_lt r i (by simpa using h)
    show (if b = true then 0 else 1) + cf (r.set i true) < (if b = true then 0 else 1) + cf r
    omega
theorem setB_get {A : List Bool} {i : Nat} (hi : i < A.length) (v : Nat) : (A.set i true).getD v false = true ↔ A.getD v false = true ∨ v = i := by
  simp only [List.getD_eq_getElem?_getD, List.getElem?_set]
  by_cases e : i = v
  · subst e
    simp [hi]
  · rw [if_neg e]
    constructor
    · exact Or.inl
    · rintro (h | h)
      · exact h
      · exact absurd h.symm e
/-- A table that the document spreads: of what is in it all hangs. -/
structure SpI (u : List (Int × Int)) (L : List Int) (n : Nat) (A : List Bool) : Prop where
  len : A.length = n
  ok : ∀ v, v ≠ 0 → A.getD v false = true → Hang u L v
theorem SpI.set_ {u : List (Int × Int)} {L : List Int} {n : Nat} {A : List Bool} (h : SpI u L n A) {l : Int} (hl : vOf l < n) (h0 : 0 ≤ l) (hh : 2 ≤ l → Hang u L (vOf l)) : SpI u L n (A.set (vOf l) true) := by
  refine ⟨by rw [List.length_set]; exact h.len, fun v hv ha => ?_⟩
  rcases (setB_get (by rw [h.len]; exact hl) v).1 ha with ha | rfl
  · exact h.ok v hv ha
  · refine hh ?_
    unfold vOf at hv
    omega
def uOf (C : Circ) (th : Bool) : List (Int × Int) := if th = true then thruU C else withU C
theorem uOf_len (C : Circ) (th : Bool) : (uOf C th).length = C.max.toNat + 1 := by
  unfold uOf
  split
  · exact thruU_len C
  · exact withU_len C
theorem uOf_and {C : Circ} (h : Fine C) (th : Bool) {z : Tri} (hz : z ∈ C.ands) : (uOf C th).getD (vOf z.1) (0, 0) = z.2 := by
  unfold uOf
  split
  · exact thruU_and h hz
  · exact withU_and h hz
theorem uOf_latch {C : Circ} (h : Fine C) {z : Tri} (hz : z ∈ C.latches) : (uOf C true).getD (vOf z.1) (0, 0) = (z.2.1, 0) := thruU_latch h hz
/-- What is closed under gates (and latches) and has the roots has all that hangs. -/
theorem spread_end {C : Circ} (hf : Fine C) {L : List Int} {th : Bool} {A : List Bool} (h : SpI (uOf C th) L (C.max.toNat + 1) A) (hr : ∀ l ∈ L, A.getD (vOf l) false = true)
    (ha : ∀ z ∈ C.ands, A.getD (vOf z.1) false = true → A.getD (vOf z.2.1) false = true ∧ A.getD (vOf z.2.2) false = true) (ht : th = true → ∀ z ∈ C.latches, A.getD (vOf z.1) false = true → A.getD (vOf z.2.1) false = true) (hfit : CFits (uOf C th) L) : A.set 0 false = supF (uOf C th) L := by
  refine sup_eq (by rw [List.length_set, h.len, uOf_len]) (fun v _ => ?_)
  have hz : (A.set 0 false).getD v false = true ↔ v ≠ 0 ∧ A.getD v false = true := by
    simp only [List.getD_eq_getElem?_getD, List.getElem?_set]
    by_cases e : 0 = v
    · subst e
      simp
      split <;> simp
    · rw [if_neg e]
      exact ⟨fun hh => ⟨fun e2 => e e2.symm, hh⟩, fun hh => hh.2⟩
  rw [hz]
  constructor
  · rintro ⟨h1, h2⟩
    exact h.ok v h1 h2
  · intro hh
    refine ⟨by have := (hh.lt hfit).1; omega, ?_⟩
    refine hh.least (p := fun v => A.getD v false = true) (fun l hl _ => hr l hl) (fun u hu => ?_)
    cases th with
    | true =>
      rcases thruU_cases C u hf with ⟨z, hzm, rfl, e⟩ | ⟨z, hzm, rfl, e⟩ | e
      · rw [show uOf C true = thruU C from rfl, e]
        exact ⟨fun _ => (ha z hzm hu).1, fun _ => (ha z hzm hu).2⟩
      · rw [show uOf C true = thruU C from rfl, e]
        exact ⟨fun _ => ht rfl z hzm hu, fun h2 => by simp at h2⟩
      · rw [show uOf C true = thruU C from rfl, e]
        exact ⟨fun h2 => by simp at h2, fun h2 => by simp at h2⟩
    | false =>
      rcases withU_cases C u hf with ⟨z, hzm, rfl, e⟩ | e
      · rw [show uOf C false = withU C from rfl, e]
        exact ⟨fun _ => (ha z hzm hu).1, fun _ => (ha z hzm hu).2⟩
      · rw [show uOf C false = withU C from rfl, e]
        exact ⟨fun h2 => by simp at h2, fun h2 => by simp at h2⟩
/-- The gates that were gone over are closed. -/
def ClA (zs : List Tri) (A : List Bool) : Prop := ∀ z ∈ zs, A.getD (vOf z.1) false = true → A.getD (vOf z.2.1) false = true ∧ A.getD (vOf z.2.2) false = true
def ClL (zs : List Tri) (A : List Bool) : Prop := ∀ z ∈ zs, A.getD (vOf z.1) false = true → A.getD (vOf z.2.1) false = true
def Rts (L : List Int) (A : List Bool) : Prop := ∀ l ∈ L, A.getD (vOf l) false = true
theorem Rts.set_ {L : List Int} {A : List Bool} (h : Rts L A) {i : Nat} (hi : i < A.length) : Rts L (A.set i true) := fun l hl => (setB_get hi _).2 (Or.inl (h l hl))
theorem ClA.more {zs : List Tri} {A : List Bool} {q : Nat} {z : Tri} (h : ClA (zs.take q) A) (hz : zs[q]? = some z) (hc : A.getD (vOf z.1) false = true → A.getD (vOf z.2.1) false = true ∧ A.getD (vOf z.2.2) false = true) : ClA (zs.take (q + 1)) A := fun y hy => by
  rw [take_more hz] at hy
  rcases List.mem_append.1 hy with hy | hy
  · exact h y hy
  · rw [List.mem_singleton.1 hy]; exact hc
theorem ClL.more {zs : List Tri} {A : List Bool} {q : Nat} {z : Tri} (h : ClL (zs.take q) A) (hz : zs[q]? = some z) (hc : A.getD (vOf z.1) false = true → A.getD (vOf z.2.1) false = true) : ClL (zs.take (q + 1)) A := fun y hy => by
  rw [take_more hz] at hy
  rcases List.mem_append.1 hy with hy | hy
  · exact h y hy
  · rw [List.mem_singleton.1 hy]; exact hc

set_option maxHeartbeats 20000000 in
set_option maxRecDepth 100000 in
theorem rspread_any (w : World) (V : CV) (C : Circ) (v : Value) (L : List Int) (th : Bool) (h : C.In w V) (hz : (checkR C).2 = 0) (hv : RowE 1 encI w v L) (hlf : ∀ l ∈ L, 0 ≤ l ∧ l / 2 ≤ C.max) (hl16 : L.length ≤ 60000) :
    Calls Try.prog 105 #[V.val C.max, v, .bool th] w fun e w' => ∃ g, e = .returned (.slice (some ⟨g, 0, none⟩) (C.max.toNat + 1) (C.max.toNat + 1)) ∧ w.heap.size ≤ g ∧ Below w.heap.size w w' ∧ Tab w' g (supF (uOf C th) L) := by
  have hf := fine_of hz
  have hr := right_of hz
  have hfit : CFits (uOf C th) L := by
    unfold uOf
    split
    · exact fits_thru hf hlf
    · exact fits_with hf hlf
  have hb0 := (Below.refl w.heap.size w).alloc (Nat.le_refl _) (.cells (V.cells C.max) 29)
  have hbx0 := Blk.new w 29 (V.cells C.max)
  obtain ⟨W1, hW1⟩ : ∃ W1, w.alloc (.cells (V.cells C.max) 29) = W1 := ⟨_, rfl⟩
  rw [hW1] at hb0 hbx0
  have HW1 := Lib.hid hW1
  have hsz1 : W1.heap.size = w.heap.size + 1 := by rw [← hW1]; simp
  obtain ⟨Vi, Vl, Vo, Vb, Vc, Vj, Vf, Va, Vs, Vt⟩ := V
  obtain ⟨AL, cL, eL, _, _, hL⟩ := h.l
  obtain ⟨AA, cA, eA, _, _, hA⟩ := h.a
  obtain ⟨LA, lc, eV, _, _, hLL⟩ := hv
  simp only at eL eA
  subst eL eA eV
  obtain ⟨m, hmm⟩ : ∃ m : Nat, C.max = (m : Int) := ⟨C.max.toNat, by have := hr.m0; omega⟩
  have hm16 : m ≤ 16384 := by have := hr.m1; omega
  have HMM : Hid (C.max.toNat = m) := Lib.hid (by rw [hmm]; rfl)
  have HCX : Hid (∀ wz, Below W1.heap.size W1 wz → wz.cell? ⟨w.heap.size, 0, none⟩ = some (.int .i64 m) ∧ wz.cell? ⟨w.heap.size, 2, none⟩ = some (.slice AL C.latches.length cL) ∧ wz.cell? ⟨w.heap.size, 8, none⟩ = some (.slice AA C.ands.length cA) ∧ Below w.heap.size w wz) := Lib.hid (fun wz hz => by
    have q := hbx0.below hz hbx0.lt
    rw [hmm] at q
    exact ⟨q.cell 0, q.cell 2, q.cell 8, bt hb0 (Nat.le_refl _) hz⟩)
  have HAN : Hid (∀ z ∈ C.ands, (uOf C th).getD (vOf z.1) (0, 0) = z.2) := Lib.hid (fun z hz => uOf_and hf th hz)
  have HAL : Hid (th = true → ∀ z ∈ C.latches, (uOf C th).getD (vOf z.1) (0, 0) = (z.2.1, 0)) := Lib.hid (fun ht z hz => by rw [ht]; exact uOf_latch hf hz)
  have HEND : Hid (∀ A, SpI (uOf C th) L (m + 1) A → Rts L A → ClA C.ands A → (th = true → ClL C.latches A) → A.set 0 false = supF (uOf C th) L) := Lib.hid (fun A h1 h2 h3 h4 => spread_end hf (by rw [HMM.out]; exact h1) h2 h3 h4 hfit)
  have HIF : Hid (∀ z ∈ C.ands, (0 ≤ z.1 ∧ vOf z.1 < m + 1 ∧ vOf z.1 ≠ 0) ∧ (0 ≤ z.2.1 ∧ vOf z.2.1 < m + 1) ∧ (0 ≤ z.2.2 ∧ vOf z.2.2 < m + 1)) := Lib.hid (fun z hz => by
    obtain ⟨⟨a1, a2⟩, ⟨b1, b2⟩, ⟨c1, c2⟩⟩ := hr.a z hz
    unfold vOf
    exact ⟨⟨by omega, by omega, by omega⟩, ⟨b1, by omega⟩, ⟨c1, by omega⟩⟩)
  have HIT : Hid (∀ z ∈ C.latches, (0 ≤ z.1 ∧ vOf z.1 < m + 1 ∧ vOf z.1 ≠ 0) ∧ (0 ≤ z.2.1 ∧ vOf z.2.1 < m + 1)) := Lib.hid (fun z hz => by
    obtain ⟨⟨a1, a2⟩, ⟨b1, b2⟩, _⟩ := hr.l z hz
    unfold vOf
    exact ⟨⟨by omega, by omega, by omega⟩, ⟨b1, by omega⟩⟩)
  have HIL : Hid (∀ l ∈ L, 0 ≤ l ∧ vOf l < m + 1) := Lib.hid (fun l hl => by
    have := hlf l hl
    unfold vOf
    exact ⟨this.1, by omega⟩)
  have hnL16 := hr.nl
  have hnA16 := hr.na
  have HL := Lib.hid hL
  have HA := Lib.hid hA
  have HLL := Lib.hid hLL
  rw [HMM.out]
  rw [hmm] at HW1 ⊢
  clear h hz hf hr hfit hb0 hbx0 hW1 hL hA hLL hlf hmm
  obtain ⟨nL, hnL⟩ : ∃ n, C.latches.length = n := ⟨_, rfl⟩
  obtain ⟨nA, hnA⟩ : ∃ n, C.ands.length = n := ⟨_, rfl⟩
  obtain ⟨nl, hnl⟩ : ∃ n, L.length = n := ⟨_, rfl⟩
  rw [hnL] at HCX HW1 hnL16 ⊢
  rw [hnA] at HCX HW1 hnA16 ⊢
  rw [hnl] at hl16 ⊢
  have HNL := Lib.hid hnL
  have HNA := Lib.hid hnA
  have HNl := Lib.hid hnl
  clear hnL hnA hnl
  obtain ⟨u, hu⟩ : ∃ u, uOf C th = u := ⟨_, rfl⟩
  rw [hu] at HAN HAL HEND ⊢
  have HAL1 := HAL
  clear hu HAL
  have HAL := HAL1
  clear HAL1
  have hmk := make_bools (m + 1) (by omega)
  push_cast at hmk
  have hwm : IntKind.i64.wrap ((m : Int) + 1) = (m : Int) + 1 := i64_small (by omega) (by omega)
  have HTA := Lib.hid (new_supp W1 (m + 1))
  have HB4 : Hid (Below W1.heap.size W1 (W1.alloc (.cells (madeCells #[Value.bool false] (m + 1)) 4))) := Lib.hid ((Below.refl _ _).alloc (Nat.le_refl _) _)
  have HSP : Hid (SpI u L (m + 1) (List.replicate (m + 1) false)) := Lib.hid ⟨by simp, fun v _ hv => by
    rw [List.getD_eq_getElem?_getD, List.getElem?_replicate] at hv
    split at hv <;> simp at hv⟩
  have hx0 := (HCX.out W1 (Below.refl _ _)).1
  obtain ⟨ga, hga⟩ : ∃ ga, W1.heap.size = ga := ⟨_, rfl⟩
  rw [hga] at HTA HB4 HCX
  have hgw : w.heap.size ≤ ga := by omega
  clear hsz1
  go_enter Try.func105, Try.ntmps105
  go_upto_region 1 with (fail)
  rw [HW1.out]
  go_wp2
  go_loopg [8] nl (fun j iv wx => ∃ (q : Nat) (A : List Bool), q ≤ nl ∧ j = nl - q ∧ iv = .int .i64 q ∧ Below ga W1 wx ∧ Tab wx ga A ∧ SpI u L (m + 1) A ∧ Rts (L.take q) A)
  case atStart => exact ⟨0, _, Nat.zero_le _, rfl, rfl, HB4.out, HTA.out, HSP.out, fun l hl => by simp at hl⟩
  case round =>
    obtain ⟨q, A, hq, hgk, rfl, hbl, hta, hsp, hrt⟩ := hrel
    subst hgk
    clear HB4 HTA HSP hx0
    have HB := Lib.hid hbl
    have HTA := Lib.hid hta
    have HSP := Lib.hid hsp
    have HRT := Lib.hid hrt
    clear hbl hta hsp hrt
    by_cases hlt : q < nl
    · obtain ⟨x, hx⟩ : ∃ x, L[q]? = some x := ⟨_, List.getElem?_eq_getElem (by rw [HNl.out]; exact hlt)⟩
      obtain ⟨b, off, e, hb, hcell⟩ := HLL.out q x hx
      subst e
      have h0 := ((HCX.out wr HB.out).2.2.2.cell (p := ⟨b, off + (q * 1 + 0), none⟩) hb).trans (hcell 0 _ rfl)
      simp only [Nat.add_zero, Nat.mul_one] at h0
      obtain ⟨x0, x1⟩ := HIL.out x (List.mem_of_getElem? hx)
      have hxv : (x / 2).toNat < m + 1 := x1
      obtain ⟨y, hy⟩ : ∃ y, A[(x / 2).toNat]? = some y := ⟨_, List.getElem?_eq_getElem (by rw [HSP.out.len]; exact hxv)⟩
      have hca := HTA.out.cell hy
      have hfa := Blk.frozen HTA.out (x / 2).toNat
      have hla := Blk.lt HTA.out
      have HTN := Lib.hid (HTA.out.set_ (x / 2).toNat true)
      have HBN : Hid (Below ga W1 (wr.setCell ⟨ga, (x / 2).toNat, none⟩ (.bool true))) := Lib.hid (HB.out.setCell (Nat.le_refl _) _)
      have HSN : Hid (SpI u L (m + 1) (A.set (x / 2).toNat true)) := Lib.hid (HSP.out.set_ x1 x0 (fun h2 => Hang.root (List.mem_of_getElem? hx) h2))
      have HRN : Hid (Rts (L.take (q + 1)) (A.set (x / 2).toNat true)) := Lib.hid (fun l hl => by
        rw [take_more hx] at hl
        have hA : (x / 2).toNat < A.length := by rw [HSP.out.len]; exact hxv
        rcases List.mem_append.1 hl with hl | hl
        · exact (setB_get hA _).2 (Or.inl (HRT.out l hl))
        · rw [List.mem_singleton.1 hl]; exact (setB_get hA _).2 (Or.inr rfl))
      have hqt := tdiv_nn (b := 2) x0
      have hq0 : 0 ≤ x / 2 := by omega
      have hq1 : x / 2 < (m : Int) + 1 := by omega
      have hq3 : IntKind.i64.wrap (x / 2) = x / 2 := i64_small (by omega) (by omega)
      have hk0 : (0 : Int) ≤ (q : Int) := by omega
      have hk1 : (q : Int) < (nl : Int) := by omega
      clear hcell hx hy x1 hxv
      go_wp2
      go_roundg (nl - (q + 1))
      case measure => omega
      case rel => exact ⟨q + 1, _, by omega, rfl, by go_num, HBN.out, HTN.out, HSN.out, HRN.out⟩
    · have hqe : nl = q := by omega
      subst hqe
      have hrt2 := HRT.out
      rw [List.take_of_length_le (by rw [HNl.out]; exact Nat.le_refl _)] at hrt2
      have HRT := Lib.hid hrt2
      clear hrt2 hlt hq
      go_wp2
      go_loopg [9] (cf A + 1) (fun k vg wx => ∃ (A : List Bool) (ag : Bool), k = (if ag = true then cf A + 1 else 0) ∧ vg = .bool ag ∧ Below ga W1 wx ∧ Tab wx ga A ∧ SpI u L (m + 1) A ∧ Rts L A ∧ (ag = false → ClA C.ands A ∧ (th = true → ClL C.latches A)))
      case atStart => exact ⟨A, true, rfl, rfl, HB.out, HTA.out, HSP.out, HRT.out, (fun h => by cases h)⟩
      case round =>
        clear HB HTA HSP HRT
        obtain ⟨A1, ag, rfl, rfl, hbl, hta, hsp, hrt, hcl⟩ := hrel
        have HB := Lib.hid hbl
        have HTA := Lib.hid hta
        have HSP := Lib.hid hsp
        have HRT := Lib.hid hrt
        clear hbl hta hsp hrt
        cases ag with
        | false =>
          obtain ⟨hc1, hc2⟩ := hcl rfl
          have hE := HEND.out A1 HSP.out HRT.out hc1 hc2
          have HE := Lib.hid hE
          obtain ⟨y, hy⟩ : ∃ y, A1[0]? = some y := ⟨_, List.getElem?_eq_getElem (by rw [HSP.out.len]; omega)⟩
          have hca := HTA.out.cell hy
          have hfa := Blk.frozen HTA.out 0
          have hla := Blk.lt HTA.out
          have HTN := Lib.hid (HTA.out.set_ 0 false)
          have HBN : Hid (Below ga W1 (wr.setCell ⟨ga, 0, none⟩ (.bool false))) := Lib.hid (HB.out.setCell (Nat.le_refl _) _)
          clear hE hy hc1 hc2 hcl
          go_wp2
          go_ret
          exact ⟨ga, rfl, by omega, (HCX.out _ HBN.out).2.2.2, by rw [← HE.out]; exact HTN.out⟩
        | true =>
          clear hcl
          obtain ⟨y0, y2, y8, _⟩ := HCX.out wr HB.out
          go_wp2
          go_loopg [9, 10] nA (fun j vg iv wx => ∃ (q : Nat) (B : List Bool) (ag : Bool), q ≤ nA ∧ j = nA - q ∧ iv = .int .i64 q ∧ vg = .bool ag ∧ Below ga W1 wx ∧ Tab wx ga B ∧ SpI u L (m + 1) B ∧ Rts L B ∧ cf B ≤ cf A1 ∧ (ag = true → cf B < cf A1) ∧ (ag = false → ClA (C.ands.take q) B))
          case atStart => exact ⟨0, A1, false, Nat.zero_le _, rfl, rfl, rfl, HB.out, HTA.out, HSP.out, HRT.out, Nat.le_refl _, (fun h => by cases h), (fun _ z hz => by simp at hz)⟩
          case round =>
            clear HB HTA HSP HRT
            obtain ⟨q, B, ag, hq, hgk, rfl, rfl, hbl, hta, hsp, hrt, hcf1, hcf2, hcl⟩ := hrel
            subst hgk
            have HB := Lib.hid hbl
            have HTA := Lib.hid hta
            have HSP := Lib.hid hsp
            have HRT := Lib.hid hrt
            have HCF := Lib.hid (And.intro hcf1 (And.intro hcf2 hcl))
            clear hbl hta hsp hrt hcf1 hcf2 hcl
            obtain ⟨y0, y2, y8, _⟩ := HCX.out wr HB.out
            by_cases hlt : q < nA
            · have hk0 : (0 : Int) ≤ (q : Int) := by omega
              have hk1 : (q : Int) < (nA : Int) := by omega
              obtain ⟨⟨z0, z1, z2⟩, hz⟩ : ∃ z, C.ands[q]? = some z := ⟨_, List.getElem?_eq_getElem (by rw [HNA.out]; exact hlt)⟩
              obtain ⟨b, off, e, hb, hcell⟩ := HA.out q (z0, z1, z2) hz
              subst e
              have h0 := ((HCX.out wr HB.out).2.2.2.cell (p := ⟨b, off + (q * 3 + 0), none⟩) hb).trans (hcell 0 _ rfl)
              have h1 := ((HCX.out wr HB.out).2.2.2.cell (p := ⟨b, off + (q * 3 + 1), none⟩) hb).trans (hcell 1 _ rfl)
              have h2 := ((HCX.out wr HB.out).2.2.2.cell (p := ⟨b, off + (q * 3 + 2), none⟩) hb).trans (hcell 2 _ rfl)
              simp only [Nat.add_zero, ← Nat.add_assoc] at h0 h1 h2
              obtain ⟨⟨x0, x1, x3⟩, ⟨u0, u1⟩, v0, v1⟩ := HIF.out (z0, z1, z2) (List.mem_of_getElem? hz)
              simp only at x0 x1 x3 u0 u1 v0 v1
              have HZM : Hid ((z0, z1, z2) ∈ C.ands) := Lib.hid (List.mem_of_getElem? hz)
              have HZ := Lib.hid hz
              have HBA : Hid (Below ga W1 (wr.alloc (.cells #[.int .i64 z0, .int .i64 z1, .int .i64 z2] 68))) := Lib.hid (HB.out.alloc (by have := Blk.lt HTA.out; omega) _)
              have hTA1 : Tab (wr.alloc (.cells #[.int .i64 z0, .int .i64 z1, .int .i64 z2] 68)) ga B := Blk.alloc HTA.out _
              have HTA1 := Lib.hid hTA1
              have hqt := tdiv_nn (b := 2) x0
              have hq0 : 0 ≤ z0 / 2 := by omega
              have hut := tdiv_nn (b := 2) u0
              have hu0 : 0 ≤ z1 / 2 := by omega
              have hvt := tdiv_nn (b := 2) v0
              have hv0 : 0 ≤ z2 / 2 := by omega
              have ib0 : (z0 / 2).toNat < m + 1 := x1
              have jb0 : z0 / 2 < (m : Int) + 1 := by omega
              have kb0 : IntKind.i64.wrap (z0 / 2) = z0 / 2 := i64_small (by omega) (by omega)
              obtain ⟨b0, hb0⟩ : ∃ y, B[(z0 / 2).toNat]? = some y := ⟨_, List.getElem?_eq_getElem (by rw [HSP.out.len]; exact ib0)⟩
              have cb0 := hTA1.cell hb0
              have gb0 : B.getD (vOf z0) false = b0 := by unfold vOf; rw [List.getD_eq_getElem?_getD, hb0]; rfl
              have ib1 : (z1 / 2).toNat < m + 1 := u1
              have jb1 : z1 / 2 < (m : Int) + 1 := by omega
              have kb1 : IntKind.i64.wrap (z1 / 2) = z1 / 2 := i64_small (by omega) (by omega)
              obtain ⟨b1, hb1⟩ : ∃ y, B[(z1 / 2).toNat]? = some y := ⟨_, List.getElem?_eq_getElem (by rw [HSP.out.len]; exact ib1)⟩
              have cb1 := hTA1.cell hb1
              have gb1 : B.getD (vOf z1) false = b1 := by unfold vOf; rw [List.getD_eq_getElem?_getD, hb1]; rfl
              have ib2 : (z2 / 2).toNat < m + 1 := v1
              have jb2 : z2 / 2 < (m : Int) + 1 := by omega
              have kb2 : IntKind.i64.wrap (z2 / 2) = z2 / 2 := i64_small (by omega) (by omega)
              obtain ⟨b2, hb2⟩ : ∃ y, B[(z2 / 2).toNat]? = some y := ⟨_, List.getElem?_eq_getElem (by rw [HSP.out.len]; exact ib2)⟩
              have cb2 := hTA1.cell hb2
              have gb2 : B.getD (vOf z2) false = b2 := by unfold vOf; rw [List.getD_eq_getElem?_getD, hb2]; rfl
              cases b0 with
              | false =>
                have HCN : Hid (ag = false → ClA (C.ands.take (q + 1)) B) := Lib.hid (fun h => (HCF.out.2.2 h).more HZ.out (fun h2 => by simp only at h2; rw [gb0] at h2; cases h2))
                clear hcell hz hTA1 ib0 ib1 ib2 hb0 gb0 hb1 gb1 hb2 gb2
                go_wp2
                go_roundg (nA - (q + 1))
                case measure => omega
                case rel => exact ⟨q + 1, B, ag, by omega, rfl, by go_num, rfl, HBA.out, HTA1.out, HSP.out, HRT.out, HCF.out.1, HCF.out.2.1, HCN.out⟩
              | true =>
                have HH0 : Hid (Hang u L (vOf z0)) := Lib.hid (HSP.out.ok _ x3 gb0)
                have HH1 : Hid (2 ≤ z1 → Hang u L (vOf z1)) := Lib.hid (fun h2 => by have h9 := HAN.out _ HZM.out; have h3 := Hang.left HH0.out (by rw [h9]; exact h2); rw [h9] at h3; exact h3)
                have HH2 : Hid (2 ≤ z2 → Hang u L (vOf z2)) := Lib.hid (fun h2 => by have h9 := HAN.out _ HZM.out; have h3 := Hang.right HH0.out (by rw [h9]; exact h2); rw [h9] at h3; exact h3)
                cases b1 with
                | false =>
                  have hset1 := HSP.out.set_ u1 u0 HH1.out
                  have HSN : Hid (SpI u L (m + 1) ((B.set (z1 / 2).toNat true).set (z2 / 2).toNat true)) := Lib.hid (hset1.set_ v1 v0 HH2.out)
                  have HRN : Hid (Rts L ((B.set (z1 / 2).toNat true).set (z2 / 2).toNat true)) := Lib.hid ((HRT.out.set_ (by rw [HSP.out.len]; exact u1)).set_ (by rw [List.length_set, HSP.out.len]; exact v1))
                  have HLT : Hid (cf ((B.set (z1 / 2).toNat true).set (z2 / 2).toNat true) < cf A1) := Lib.hid (by
                    have h3 := HCF.out.1
                    have h1 := cf_set_lt B (z1 / 2).toNat hb1
                    have h2 := cf_set_le (B.set (z1 / 2).toNat true) (z2 / 2).toNat
                    omega)
                  obtain ⟨y2b, hy2b⟩ : ∃ y, (B.set (z1 / 2).toNat true)[(z2 / 2).toNat]? = some y := ⟨_, List.getElem?_eq_getElem (by rw [List.length_set, HSP.out.len]; exact v1)⟩
                  have hT1 : Tab (wr.alloc (.cells #[.int .i64 z0, .int .i64 z1, .int .i64 z2] 68)).drew ga B := HTA1.out
                  have hT2 := hT1.set_ (z1 / 2).toNat true
                  have hT2d : Tab ((wr.alloc (.cells #[.int .i64 z0, .int .i64 z1, .int .i64 z2] 68)).setCell ⟨ga, (z1 / 2).toNat, none⟩ (.bool true)).drew ga (B.set (z1 / 2).toNat true) := hT2
                  have hz1 : Blk (wr.alloc (.cells #[.int .i64 z0, .int .i64 z1, .int .i64 z2] 68)).drew wr.heap.size 68 #[.int .i64 z0, .int .i64 z1, .int .i64 z2] := Blk.new wr _ _
                  have hga2 : wr.heap.size ≠ ga := by have := Blk.lt HTA.out; omega
                  have hz2 := hz1.far (p := ⟨ga, (z1 / 2).toNat, none⟩) hga2 (.bool true)
                  have hz3 := hz2.far (p := ⟨ga, (z2 / 2).toNat, none⟩) hga2 (.bool true)
                  have HZ1 := Lib.hid (And.intro (hz1.cell 1) (hz1.cell 2))
                  have HZ2 := Lib.hid (And.intro (hz2.cell 1) (hz2.cell 2))
                  have HZ3 := Lib.hid (And.intro (hz3.cell 1) (hz3.cell 2))
                  have HCA1 := Lib.hid (And.intro (hT1.cell hb1) (And.intro (Blk.frozen hT1 (z1 / 2).toNat) (Blk.lt hT1)))
                  have HCA2 := Lib.hid (And.intro (hT2d.cell hy2b) (And.intro (Blk.frozen hT2d (z2 / 2).toNat) (Blk.lt hT2d)))
                  have HTN := Lib.hid (hT2.set_ (z2 / 2).toNat true)
                  have HBN : Hid (Below ga W1 (((wr.alloc (.cells #[.int .i64 z0, .int .i64 z1, .int .i64 z2] 68)).drew.setCell ⟨ga, (z1 / 2).toNat, none⟩ (.bool true)).setCell ⟨ga, (z2 / 2).toNat, none⟩ (.bool true))) := Lib.hid ((HBA.out.drew.setCell (Nat.le_refl _) _).setCell (Nat.le_refl _) _)
                  clear hcell hz hTA1 ib0 ib1 ib2 hb0 gb0 hb1 gb1 hb2 gb2 hset1 hy2b hT1 hT2 hT2d hz1 hz2 hz3
                  go_upto_region 14 with (fail)
                  refine wp_region_T (by kernel_rfl) (fun w' => w'.cell? ⟨wr.heap.size, 1, none⟩ = some (.int .i64 z1) ∧ w'.cell? ⟨wr.heap.size, 2, none⟩ = some (.int .i64 z2)) 12 ?_
                  have hHeld := HZ1.out
                  refine wpAnyT_take (i := 0) (oi := { dst := some 67, op := Op.move (Operand.tmp 7), type := 55, pos := "ref.go:24", after := #[], guard := none }) (v := ?v0r14q1) rfl (by kernel_rfl) (fun _ _ _ h => h) (by rfl) hHeld ?h0r14q1 ?_
                  case h0r14q1 => (intro w' hSw; (try dsimp only at hSw); go_simp; try with_reducible rfl)
                  (try simp only [Act.put, List.setIfInBounds_toArray, List.set_cons_zero, List.set_cons_succ])
                  refine wpAnyT_take (i := 1) (oi := { dst := some 68, op := Op.fieldAddr 68 (Operand.tmp 11) 1, type := 0, pos := "ref.go:24", after := #[], guard := none }) (v := ?v1r14q1) rfl (by kernel_rfl) (fun _ _ _ h => h) (by rfl) hHeld ?h1r14q1 ?_
                  case h1r14q1 => (intro w' hSw; (try dsimp only at hSw); go_simp; try with_reducible rfl)
                  (try simp only [Act.put, List.setIfInBounds_toArray, List.set_cons_zero, List.set_cons_succ])
                  refine wpAnyT_take (i := 2) (oi := { dst := some 69, op := Op.load 3 (Operand.tmp 68), type := 3, pos := "ref.go:24", after := #[{ on := 1, ground := Ground.data }], guard := none }) (v := ?v2r14q1) rfl (by kernel_rfl) (fun _ _ _ h => h) (by rfl) hHeld ?h2r14q1 ?_
                  case h2r14q1 => (intro w' hSw; (try dsimp only at hSw); go_simp; try with_reducible rfl)
                  (try simp only [Act.put, List.setIfInBounds_toArray, List.set_cons_zero, List.set_cons_succ])
                  refine wpAnyT_take (i := 3) (oi := { dst := some 70, op := Op.binOp BinOp.quo 3 (Operand.tmp 69) (Operand.const (Value.int IntKind.i64 2)) 3, type := 3, pos := "ref.go:24", after := #[{ on := 2, ground := Ground.data }], guard := none }) (v := ?v3r14q1) rfl (by kernel_rfl) (fun _ _ _ h => h) (by rfl) hHeld ?h3r14q1 ?_
                  case h3r14q1 => (intro w' hSw; (try dsimp only at hSw); go_simp; try with_reducible rfl)
                  (try simp only [Act.put, List.setIfInBounds_toArray, List.set_cons_zero, List.set_cons_succ])
                  refine wpAnyT_take (i := 4) (oi := { dst := some 71, op := Op.move (Operand.tmp 7), type := 55, pos := "ref.go:24", after := #[{ on := 9, ground := Ground.gcOnly Departure.lateStores }], guard := none }) (v := ?v4r14q1) rfl (by kernel_rfl) (fun _ _ _ h => h) (by rfl) hHeld ?h4r14q1 ?_
                  case h4r14q1 => (intro w' hSw; (try dsimp only at hSw); go_simp; try with_reducible rfl)
                  (try simp only [Act.put, List.setIfInBounds_toArray, List.set_cons_zero, List.set_cons_succ])
                  refine wpAnyT_take (i := 5) (oi := { dst := some 72, op := Op.fieldAddr 68 (Operand.tmp 11) 2, type := 0, pos := "ref.go:24", after := #[{ on := 9, ground := Ground.gcOnly Departure.lateStores }], guard := none }) (v := ?v5r14q1) rfl (by kernel_rfl) (fun _ _ _ h => h) (by rfl) hHeld ?h5r14q1 ?_
                  case h5r14q1 => (intro w' hSw; (try dsimp only at hSw); go_simp; try with_reducible rfl)
                  (try simp only [Act.put, List.setIfInBounds_toArray, List.set_cons_zero, List.set_cons_succ])
                  refine wpAnyT_take (i := 6) (oi := { dst := some 73, op := Op.load 3 (Operand.tmp 72), type := 3, pos := "ref.go:24", after := #[{ on := 5, ground := Ground.data }, { on := 9, ground := Ground.gcOnly Departure.lateStores }], guard := none }) (v := ?v6r14q1) rfl (by kernel_rfl) (fun _ _ _ h => h) (by rfl) hHeld ?h6r14q1 ?_
                  case h6r14q1 => (intro w' hSw; (try dsimp only at hSw); go_simp; try with_reducible rfl)
                  (try simp only [Act.put, List.setIfInBounds_toArray, List.set_cons_zero, List.set_cons_succ])
                  refine wpAnyT_take (i := 7) (oi := { dst := some 74, op := Op.binOp BinOp.quo 3 (Operand.tmp 73) (Operand.const (Value.int IntKind.i64 2)) 3, type := 3, pos := "ref.go:24", after := #[{ on := 6, ground := Ground.data }, { on := 9, ground := Ground.gcOnly Departure.lateStores }], guard := none }) (v := ?v7r14q1) rfl (by kernel_rfl) (fun _ _ _ h => h) (by rfl) hHeld ?h7r14q1 ?_
                  case h7r14q1 => (intro w' hSw; (try dsimp only at hSw); go_simp; try with_reducible rfl)
                  (try simp only [Act.put, List.setIfInBounds_toArray, List.set_cons_zero, List.set_cons_succ])
                  refine wpAnyT_take (i := 8) (oi := { dst := some 75, op := Op.indexAddr 55 (Operand.tmp 67) (Operand.tmp 70), type := 0, pos := "ref.go:24", after := #[{ on := 0, ground := Ground.data }, { on := 3, ground := Ground.data }, { on := 0, ground := Ground.phase }, { on := 1, ground := Ground.phase }, { on := 2, ground := Ground.phase }, { on := 3, ground := Ground.phase }, { on := 4, ground := Ground.textOnly Departure.lateStores }, { on := 5, ground := Ground.textOnly Departure.lateStores }, { on := 6, ground := Ground.textOnly Departure.lateStores }, { on := 7, ground := Ground.textOnly Departure.lateStores }], guard := none }) (v := ?v8r14q1) rfl (by kernel_rfl) (fun _ _ _ h => h) (by rfl) hHeld ?h8r14q1 ?_
                  case h8r14q1 => (intro w' hSw; (try dsimp only at hSw); go_simp; try with_reducible rfl)
                  (try simp only [Act.put, List.setIfInBounds_toArray, List.set_cons_zero, List.set_cons_succ])
                  clear hHeld
                  obtain ⟨k1, k2, k3⟩ := HCA1.out
                  refine wpAnyT_one (i := 9) (o := { dst := none, op := Op.store 4 (Operand.tmp 75) (Operand.const (Value.bool true)), type := 0, pos := "ref.go:24", after := #[{ on := 8, ground := Ground.data }, { on := 0, ground := Ground.phase }, { on := 1, ground := Ground.phase }, { on := 2, ground := Ground.phase }, { on := 3, ground := Ground.phase }, { on := 4, ground := Ground.textOnly Departure.lateStores }, { on := 5, ground := Ground.textOnly Departure.lateStores }, { on := 6, ground := Ground.textOnly Departure.lateStores }, { on := 7, ground := Ground.textOnly Departure.lateStores }], guard := none }) rfl (by kernel_rfl) (fun K hK => ?_)
                  go_simp
                  refine hK.out _ _ (fun _ => HZ2.out) ?_
                  clear hK K k1 k2 k3
                  (try simp only [Act.put, List.setIfInBounds_toArray, List.set_cons_zero, List.set_cons_succ])
                  have hHeld := HZ2.out
                  refine wpAnyT_take (i := 10) (oi := { dst := some 76, op := Op.indexAddr 55 (Operand.tmp 71) (Operand.tmp 74), type := 0, pos := "ref.go:24", after := #[{ on := 4, ground := Ground.data }, { on := 7, ground := Ground.data }, { on := 0, ground := Ground.phase }, { on := 1, ground := Ground.phase }, { on := 2, ground := Ground.phase }, { on := 3, ground := Ground.phase }, { on := 4, ground := Ground.phase }, { on := 5, ground := Ground.phase }, { on := 6, ground := Ground.phase }, { on := 7, ground := Ground.phase }, { on := 8, ground := Ground.phase }, { on := 9, ground := Ground.phase }], guard := none }) (v := ?v10r14q2) rfl (by kernel_rfl) (fun _ _ _ h => h) (by rfl) hHeld ?h10r14q2 ?_
                  case h10r14q2 => (intro w' hSw; (try dsimp only at hSw); go_simp; try with_reducible rfl)
                  (try simp only [Act.put, List.setIfInBounds_toArray, List.set_cons_zero, List.set_cons_succ])
                  clear hHeld
                  obtain ⟨k1, k2, k3⟩ := HCA2.out
                  refine wpAnyT_one (i := 11) (o := { dst := none, op := Op.store 4 (Operand.tmp 76) (Operand.const (Value.bool true)), type := 0, pos := "ref.go:24", after := #[{ on := 10, ground := Ground.data }, { on := 9, ground := Ground.chain }, { on := 0, ground := Ground.phase }, { on := 1, ground := Ground.phase }, { on := 2, ground := Ground.phase }, { on := 3, ground := Ground.phase }, { on := 4, ground := Ground.phase }, { on := 5, ground := Ground.phase }, { on := 6, ground := Ground.phase }, { on := 7, ground := Ground.phase }, { on := 8, ground := Ground.phase }, { on := 9, ground := Ground.phase }], guard := none }) rfl (by kernel_rfl) (fun K hK => ?_)
                  go_simp
                  refine hK.out _ _ (fun _ => HZ3.out) ?_
                  clear hK K k1 k2 k3
                  (try simp only [Act.put, List.setIfInBounds_toArray, List.set_cons_zero, List.set_cons_succ])
                  refine wpAnyT_done (by kernel_rfl) ?_
                  go_wp2
                  go_roundg (nA - (q + 1))
                  case measure => omega
                  case rel => exact ⟨q + 1, _, true, by omega, rfl, by go_num, rfl, HBN.out, HTN.out, HSN.out, HRN.out, Nat.le_of_lt HLT.out, (fun _ => HLT.out), (fun h => by cases h)⟩
                | true =>
                  cases b2 with
                  | true =>
                    have HCN : Hid (ag = false → ClA (C.ands.take (q + 1)) B) := Lib.hid (fun h => (HCF.out.2.2 h).more HZ.out (fun _ => ⟨gb1, gb2⟩))
                    clear hcell hz hTA1 ib0 ib1 ib2 hb0 gb0 hb1 gb1 hb2 gb2
                    go_wp2
                    go_roundg (nA - (q + 1))
                    case measure => omega
                    case rel => exact ⟨q + 1, B, ag, by omega, rfl, by go_num, rfl, HBA.out, HTA1.out, HSP.out, HRT.out, HCF.out.1, HCF.out.2.1, HCN.out⟩
                  | false =>
                    have hset1 := HSP.out.set_ u1 u0 HH1.out
                    have HSN : Hid (SpI u L (m + 1) ((B.set (z1 / 2).toNat true).set (z2 / 2).toNat true)) := Lib.hid (hset1.set_ v1 v0 HH2.out)
                    have HRN : Hid (Rts L ((B.set (z1 / 2).toNat true).set (z2 / 2).toNat true)) := Lib.hid ((HRT.out.set_ (by rw [HSP.out.len]; exact u1)).set_ (by rw [List.length_set, HSP.out.len]; exact v1))
                    have HLT : Hid (cf ((B.set (z1 / 2).toNat true).set (z2 / 2).toNat true) < cf A1) := Lib.hid (by
                      have h3 := HCF.out.1
                      have hne : (z1 / 2).toNat ≠ (z2 / 2).toNat := fun e => by rw [e, hb2] at hb1; cases hb1
                      have h1 := cf_set_le B (z1 / 2).toNat
                      have h2 := cf_set_lt (B.set (z1 / 2).toNat true) (z2 / 2).toNat (by rw [List.getElem?_set_ne hne]; exact hb2)
                      omega)
                    obtain ⟨y2b, hy2b⟩ : ∃ y, (B.set (z1 / 2).toNat true)[(z2 / 2).toNat]? = some y := ⟨_, List.getElem?_eq_getElem (by rw [List.length_set, HSP.out.len]; exact v1)⟩
                    have hT1 : Tab (wr.alloc (.cells #[.int .i64 z0, .int .i64 z1, .int .i64 z2] 68)).drew ga B := HTA1.out
                    have hT2 := hT1.set_ (z1 / 2).toNat true
                    have hT2d : Tab ((wr.alloc (.cells #[.int .i64 z0, .int .i64 z1, .int .i64 z2] 68)).setCell ⟨ga, (z1 / 2).toNat, none⟩ (.bool true)).drew ga (B.set (z1 / 2).toNat true) := hT2
                    have hz1 : Blk (wr.alloc (.cells #[.int .i64 z0, .int .i64 z1, .int .i64 z2] 68)).drew wr.heap.size 68 #[.int .i64 z0, .int .i64 z1, .int .i64 z2] := Blk.new wr _ _
                    have hga2 : wr.heap.size ≠ ga := by have := Blk.lt HTA.out; omega
                    have hz2 := hz1.far (p := ⟨ga, (z1 / 2).toNat, none⟩) hga2 (.bool true)
                    have hz3 := hz2.far (p := ⟨ga, (z2 / 2).toNat, none⟩) hga2 (.bool true)
                    have HZ1 := Lib.hid (And.intro (hz1.cell 1) (hz1.cell 2))
                    have HZ2 := Lib.hid (And.intro (hz2.cell 1) (hz2.cell 2))
                    have HZ3 := Lib.hid (And.intro (hz3.cell 1) (hz3.cell 2))
                    have HCA1 := Lib.hid (And.intro (hT1.cell hb1) (And.intro (Blk.frozen hT1 (z1 / 2).toNat) (Blk.lt hT1)))
                    have HCA2 := Lib.hid (And.intro (hT2d.cell hy2b) (And.intro (Blk.frozen hT2d (z2 / 2).toNat) (Blk.lt hT2d)))
                    have HTN := Lib.hid (hT2.set_ (z2 / 2).toNat true)
                    have HBN : Hid (Below ga W1 (((wr.alloc (.cells #[.int .i64 z0, .int .i64 z1, .int .i64 z2] 68)).drew.setCell ⟨ga, (z1 / 2).toNat, none⟩ (.bool true)).setCell ⟨ga, (z2 / 2).toNat, none⟩ (.bool true))) := Lib.hid ((HBA.out.drew.setCell (Nat.le_refl _) _).setCell (Nat.le_refl _) _)
                    clear hcell hz hTA1 ib0 ib1 ib2 hb0 gb0 hb1 gb1 hb2 gb2 hset1 hy2b hT1 hT2 hT2d hz1 hz2 hz3
                    go_upto_region 14 with (fail)
                    refine wp_region_T (by kernel_rfl) (fun w' => w'.cell? ⟨wr.heap.size, 1, none⟩ = some (.int .i64 z1) ∧ w'.cell? ⟨wr.heap.size, 2, none⟩ = some (.int .i64 z2)) 12 ?_
                    have hHeld := HZ1.out
                    refine wpAnyT_take (i := 0) (oi := { dst := some 67, op := Op.move (Operand.tmp 7), type := 55, pos := "ref.go:24", after := #[], guard := none }) (v := ?v0r14q3) rfl (by kernel_rfl) (fun _ _ _ h => h) (by rfl) hHeld ?h0r14q3 ?_
                    case h0r14q3 => (intro w' hSw; (try dsimp only at hSw); go_simp; try with_reducible rfl)
                    (try simp only [Act.put, List.setIfInBounds_toArray, List.set_cons_zero, List.set_cons_succ])
                    refine wpAnyT_take (i := 1) (oi := { dst := some 68, op := Op.fieldAddr 68 (Operand.tmp 11) 1, type := 0, pos := "ref.go:24", after := #[], guard := none }) (v := ?v1r14q3) rfl (by kernel_rfl) (fun _ _ _ h => h) (by rfl) hHeld ?h1r14q3 ?_
                    case h1r14q3 => (intro w' hSw; (try dsimp only at hSw); go_simp; try with_reducible rfl)
                    (try simp only [Act.put, List.setIfInBounds_toArray, List.set_cons_zero, List.set_cons_succ])
                    refine wpAnyT_take (i := 2) (oi := { dst := some 69, op := Op.load 3 (Operand.tmp 68), type := 3, pos := "ref.go:24", after := #[{ on := 1, ground := Ground.data }], guard := none }) (v := ?v2r14q3) rfl (by kernel_rfl) (fun _ _ _ h => h) (by rfl) hHeld ?h2r14q3 ?_
                    case h2r14q3 => (intro w' hSw; (try dsimp only at hSw); go_simp; try with_reducible rfl)
                    (try simp only [Act.put, List.setIfInBounds_toArray, List.set_cons_zero, List.set_cons_succ])
                    refine wpAnyT_take (i := 3) (oi := { dst := some 70, op := Op.binOp BinOp.quo 3 (Operand.tmp 69) (Operand.const (Value.int IntKind.i64 2)) 3, type := 3, pos := "ref.go:24", after := #[{ on := 2, ground := Ground.data }], guard := none }) (v := ?v3r14q3) rfl (by kernel_rfl) (fun _ _ _ h => h) (by rfl) hHeld ?h3r14q3 ?_
                    case h3r14q3 => (intro w' hSw; (try dsimp only at hSw); go_simp; try with_reducible rfl)
                    (try simp only [Act.put, List.setIfInBounds_toArray, List.set_cons_zero, List.set_cons_succ])
                    refine wpAnyT_take (i := 4) (oi := { dst := some 71, op := Op.move (Operand.tmp 7), type := 55, pos := "ref.go:24", after := #[{ on := 9, ground := Ground.gcOnly Departure.lateStores }], guard := none }) (v := ?v4r14q3) rfl (by kernel_rfl) (fun _ _ _ h => h) (by rfl) hHeld ?h4r14q3 ?_
                    case h4r14q3 => (intro w' hSw; (try dsimp only at hSw); go_simp; try with_reducible rfl)
                    (try simp only [Act.put, List.setIfInBounds_toArray, List.set_cons_zero, List.set_cons_succ])
                    refine wpAnyT_take (i := 5) (oi := { dst := some 72, op := Op.fieldAddr 68 (Operand.tmp 11) 2, type := 0, pos := "ref.go:24", after := #[{ on := 9, ground := Ground.gcOnly Departure.lateStores }], guard := none }) (v := ?v5r14q3) rfl (by kernel_rfl) (fun _ _ _ h => h) (by rfl) hHeld ?h5r14q3 ?_
                    case h5r14q3 => (intro w' hSw; (try dsimp only at hSw); go_simp; try with_reducible rfl)
                    (try simp only [Act.put, List.setIfInBounds_toArray, List.set_cons_zero, List.set_cons_succ])
                    refine wpAnyT_take (i := 6) (oi := { dst := some 73, op := Op.load 3 (Operand.tmp 72), type := 3, pos := "ref.go:24", after := #[{ on := 5, ground := Ground.data }, { on := 9, ground := Ground.gcOnly Departure.lateStores }], guard := none }) (v := ?v6r14q3) rfl (by kernel_rfl) (fun _ _ _ h => h) (by rfl) hHeld ?h6r14q3 ?_
                    case h6r14q3 => (intro w' hSw; (try dsimp only at hSw); go_simp; try with_reducible rfl)
                    (try simp only [Act.put, List.setIfInBounds_toArray, List.set_cons_zero, List.set_cons_succ])
                    refine wpAnyT_take (i := 7) (oi := { dst := some 74, op := Op.binOp BinOp.quo 3 (Operand.tmp 73) (Operand.const (Value.int IntKind.i64 2)) 3, type := 3, pos := "ref.go:24", after := #[{ on := 6, ground := Ground.data }, { on := 9, ground := Ground.gcOnly Departure.lateStores }], guard := none }) (v := ?v7r14q3) rfl (by kernel_rfl) (fun _ _ _ h => h) (by rfl) hHeld ?h7r14q3 ?_
                    case h7r14q3 => (intro w' hSw; (try dsimp only at hSw); go_simp; try with_reducible rfl)
                    (try simp only [Act.put, List.setIfInBounds_toArray, List.set_cons_zero, List.set_cons_succ])
                    refine wpAnyT_take (i := 8) (oi := { dst := some 75, op := Op.indexAddr 55 (Operand.tmp 67) (Operand.tmp 70), type := 0, pos := "ref.go:24", after := #[{ on := 0, ground := Ground.data }, { on := 3, ground := Ground.data }, { on := 0, ground := Ground.phase }, { on := 1, ground := Ground.phase }, { on := 2, ground := Ground.phase }, { on := 3, ground := Ground.phase }, { on := 4, ground := Ground.textOnly Departure.lateStores }, { on := 5, ground := Ground.textOnly Departure.lateStores }, { on := 6, ground := Ground.textOnly Departure.lateStores }, { on := 7, ground := Ground.textOnly Departure.lateStores }], guard := none }) (v := ?v8r14q3) rfl (by kernel_rfl) (fun _ _ _ h => h) (by rfl) hHeld ?h8r14q3 ?_
                    case h8r14q3 => (intro w' hSw; (try dsimp only at hSw); go_simp; try with_reducible rfl)
                    (try simp only [Act.put, List.setIfInBounds_toArray, List.set_cons_zero, List.set_cons_succ])
                    clear hHeld
                    obtain ⟨k1, k2, k3⟩ := HCA1.out
                    refine wpAnyT_one (i := 9) (o := { dst := none, op := Op.store 4 (Operand.tmp 75) (Operand.const (Value.bool true)), type := 0, pos := "ref.go:24", after := #[{ on := 8, ground := Ground.data }, { on := 0, ground := Ground.phase }, { on := 1, ground := Ground.phase }, { on := 2, ground := Ground.phase }, { on := 3, ground := Ground.phase }, { on := 4, ground := Ground.textOnly Departure.lateStores }, { on := 5, ground := Ground.textOnly Departure.lateStores }, { on := 6, ground := Ground.textOnly Departure.lateStores }, { on := 7, ground := Ground.textOnly Departure.lateStores }], guard := none }) rfl (by kernel_rfl) (fun K hK => ?_)
                    go_simp
                    refine hK.out _ _ (fun _ => HZ2.out) ?_
                    clear hK K k1 k2 k3
                    (try simp only [Act.put, List.setIfInBounds_toArray, List.set_cons_zero, List.set_cons_succ])
                    have hHeld := HZ2.out
                    refine wpAnyT_take (i := 10) (oi := { dst := some 76, op := Op.indexAddr 55 (Operand.tmp 71) (Operand.tmp 74), type := 0, pos := "ref.go:24", after := #[{ on := 4, ground := Ground.data }, { on := 7, ground := Ground.data }, { on := 0, ground := Ground.phase }, { on := 1, ground := Ground.phase }, { on := 2, ground := Ground.phase }, { on := 3, ground := Ground.phase }, { on := 4, ground := Ground.phase }, { on := 5, ground := Ground.phase }, { on := 6, ground := Ground.phase }, { on := 7, ground := Ground.phase }, { on := 8, ground := Ground.phase }, { on := 9, ground := Ground.phase }], guard := none }) (v := ?v10r14q4) rfl (by kernel_rfl) (fun _ _ _ h => h) (by rfl) hHeld ?h10r14q4 ?_
                    case h10r14q4 => (intro w' hSw; (try dsimp only at hSw); go_simp; try with_reducible rfl)
                    (try simp only [Act.put, List.setIfInBounds_toArray, List.set_cons_zero, List.set_cons_succ])
                    clear hHeld
                    obtain ⟨k1, k2, k3⟩ := HCA2.out
                    refine wpAnyT_one (i := 11) (o := { dst := none, op := Op.store 4 (Operand.tmp 76) (Operand.const (Value.bool true)), type := 0, pos := "ref.go:24", after := #[{ on := 10, ground := Ground.data }, { on := 9, ground := Ground.chain }, { on := 0, ground := Ground.phase }, { on := 1, ground := Ground.phase }, { on := 2, ground := Ground.phase }, { on := 3, ground := Ground.phase }, { on := 4, ground := Ground.phase }, { on := 5, ground := Ground.phase }, { on := 6, ground := Ground.phase }, { on := 7, ground := Ground.phase }, { on := 8, ground := Ground.phase }, { on := 9, ground := Ground.phase }], guard := none }) rfl (by kernel_rfl) (fun K hK => ?_)
                    go_simp
                    refine hK.out _ _ (fun _ => HZ3.out) ?_
                    clear hK K k1 k2 k3
                    (try simp only [Act.put, List.setIfInBounds_toArray, List.set_cons_zero, List.set_cons_succ])
                    refine wpAnyT_done (by kernel_rfl) ?_
                    go_wp2
                    go_roundg (nA - (q + 1))
                    case measure => omega
                    case rel => exact ⟨q + 1, _, true, by omega, rfl, by go_num, rfl, HBN.out, HTN.out, HSN.out, HRN.out, Nat.le_of_lt HLT.out, (fun _ => HLT.out), (fun h => by cases h)⟩
            · have hqe : nA = q := by omega
              subst hqe
              obtain ⟨B1, hB1⟩ : ∃ B1, B = B1 := ⟨_, rfl⟩
              obtain ⟨ag1, hag1⟩ : ∃ a, ag = a := ⟨_, rfl⟩
              rw [hB1, hag1] at HCF
              rw [hB1] at HTA HSP HRT
              rw [hag1]
              rw [List.take_of_length_le (by rw [HNA.out]; exact Nat.le_refl _)] at HCF
              clear hlt hq
              have HBX := Lib.hid HB.out
              cases th with
              | false =>
                obtain ⟨y0, y2, y8, _⟩ := HCX.out wr HB.out
                by_cases hn0 : nL = 0
                · subst hn0
                  go_wp2
                  refine wp_loop_rounds 1 ?_
                  rw [rounds_succ]
                  go_wp2
                  go_roundg (if ag1 = true then cf B1 + 1 else 0)
                  case rel => exact ⟨B1, ag1, rfl, rfl, HB.out, HTA.out, HSP.out, HRT.out, fun h => ⟨HCF.out.2.2 h, fun h => by cases h⟩⟩
                  case measure =>
                    cases ag1 with
                    | true => have := HCF.out.2.1 rfl; simp; omega
                    | false => simp
                · have hn1 : (0 : Int) < (nL : Int) := by omega
                  go_wp2
                  refine wp_loop_rounds 1 ?_
                  rw [rounds_succ]
                  go_wp2
                  go_roundg (if ag1 = true then cf B1 + 1 else 0)
                  case rel => exact ⟨B1, ag1, rfl, rfl, HB.out, HTA.out, HSP.out, HRT.out, fun h => ⟨HCF.out.2.2 h, fun h => by cases h⟩⟩
                  case measure =>
                    cases ag1 with
                    | true => have := HCF.out.2.1 rfl; simp; omega
                    | false => simp
              | true =>
                obtain ⟨y0, y2, y8, _⟩ := HCX.out wr HB.out
                clear HBX
                go_wp2
                go_loopg [9, 12] nL (fun j vg iv wx => ∃ (q : Nat) (B : List Bool) (ag : Bool), q ≤ nL ∧ j = nL - q ∧ iv = .int .i64 q ∧ vg = .bool ag ∧ Below ga W1 wx ∧ Tab wx ga B ∧ SpI u L (m + 1) B ∧ Rts L B ∧ cf B ≤ cf A1 ∧ (ag = true → cf B < cf A1) ∧ (ag = false → ClA C.ands B ∧ ClL (C.latches.take q) B))
                case atStart => exact ⟨0, B1, ag1, Nat.zero_le _, rfl, rfl, rfl, HB.out, HTA.out, HSP.out, HRT.out, HCF.out.1, HCF.out.2.1, fun h => ⟨HCF.out.2.2 h, fun z hz => by simp at hz⟩⟩
                case round =>
                  clear HB HTA HSP HRT HCF
                  obtain ⟨q, B, ag, hq, hgk, rfl, rfl, hbl, hta, hsp, hrt, hcf1, hcf2, hcl⟩ := hrel
                  subst hgk
                  have HB := Lib.hid hbl
                  have HTA := Lib.hid hta
                  have HSP := Lib.hid hsp
                  have HRT := Lib.hid hrt
                  have HCF := Lib.hid (And.intro hcf1 (And.intro hcf2 hcl))
                  clear hbl hta hsp hrt hcf1 hcf2 hcl
                  obtain ⟨y0, y2, y8, _⟩ := HCX.out wr HB.out
                  by_cases hlt : q < nL
                  · have hk0 : (0 : Int) ≤ (q : Int) := by omega
                    have hk1 : (q : Int) < (nL : Int) := by omega
                    obtain ⟨⟨z0, z1, z2⟩, hz⟩ : ∃ z, C.latches[q]? = some z := ⟨_, List.getElem?_eq_getElem (by rw [HNL.out]; exact hlt)⟩
                    obtain ⟨b, off, e, hb, hcell⟩ := HL.out q (z0, z1, z2) hz
                    subst e
                    have h0 := ((HCX.out wr HB.out).2.2.2.cell (p := ⟨b, off + (q * 3 + 0), none⟩) hb).trans (hcell 0 _ rfl)
                    have h1 := ((HCX.out wr HB.out).2.2.2.cell (p := ⟨b, off + (q * 3 + 1), none⟩) hb).trans (hcell 1 _ rfl)
                    have h2 := ((HCX.out wr HB.out).2.2.2.cell (p := ⟨b, off + (q * 3 + 2), none⟩) hb).trans (hcell 2 _ rfl)
                    simp only [Nat.add_zero, ← Nat.add_assoc] at h0 h1 h2
                    obtain ⟨⟨x0, x1, x3⟩, u0, u1⟩ := HIT.out (z0, z1, z2) (List.mem_of_getElem? hz)
                    simp only at x0 x1 x3 u0 u1
                    have HZM : Hid ((z0, z1, z2) ∈ C.latches) := Lib.hid (List.mem_of_getElem? hz)
                    have HZ := Lib.hid hz
                    have HBA : Hid (Below ga W1 (wr.alloc (.cells #[.int .i64 z0, .int .i64 z1, .int .i64 z2] 70))) := Lib.hid (HB.out.alloc (by have := Blk.lt HTA.out; omega) _)
                    have hTA1 : Tab (wr.alloc (.cells #[.int .i64 z0, .int .i64 z1, .int .i64 z2] 70)) ga B := Blk.alloc HTA.out _
                    have HTA1 := Lib.hid hTA1
                    have hqt := tdiv_nn (b := 2) x0
                    have hq0 : 0 ≤ z0 / 2 := by omega
                    have hut := tdiv_nn (b := 2) u0
                    have hu0 : 0 ≤ z1 / 2 := by omega
                    have ib0 : (z0 / 2).toNat < m + 1 := x1
                    have jb0 : z0 / 2 < (m : Int) + 1 := by omega
                    have kb0 : IntKind.i64.wrap (z0 / 2) = z0 / 2 := i64_small (by omega) (by omega)
                    obtain ⟨b0, hb0⟩ : ∃ y, B[(z0 / 2).toNat]? = some y := ⟨_, List.getElem?_eq_getElem (by rw [HSP.out.len]; exact ib0)⟩
                    have cb0 := hTA1.cell hb0
                    have gb0 : B.getD (vOf z0) false = b0 := by unfold vOf; rw [List.getD_eq_getElem?_getD, hb0]; rfl
                    have ib1 : (z1 / 2).toNat < m + 1 := u1
                    have jb1 : z1 / 2 < (m : Int) + 1 := by omega
                    have kb1 : IntKind.i64.wrap (z1 / 2) = z1 / 2 := i64_small (by omega) (by omega)
                    obtain ⟨b1, hb1⟩ : ∃ y, B[(z1 / 2).toNat]? = some y := ⟨_, List.getElem?_eq_getElem (by rw [HSP.out.len]; exact ib1)⟩
                    have cb1 := hTA1.cell hb1
                    have gb1 : B.getD (vOf z1) false = b1 := by unfold vOf; rw [List.getD_eq_getElem?_getD, hb1]; rfl
                    cases b0 with
                    | false =>
                      have HCN : Hid (ag = false → ClA C.ands B ∧ ClL (C.latches.take (q + 1)) B) := Lib.hid (fun h => ⟨(HCF.out.2.2 h).1, (HCF.out.2.2 h).2.more HZ.out (fun h2 => by simp only at h2; rw [gb0] at h2; cases h2)⟩)
                      clear hcell hz hTA1 ib0 ib1 hb0 gb0 hb1 gb1
                      go_wp2
                      go_roundg (nL - (q + 1))
                      case measure => omega
                      case rel => exact ⟨q + 1, B, ag, by omega, rfl, by go_num, rfl, HBA.out, HTA1.out, HSP.out, HRT.out, HCF.out.1, HCF.out.2.1, HCN.out⟩
                    | true =>
                      have HH0 : Hid (Hang u L (vOf z0)) := Lib.hid (HSP.out.ok _ x3 gb0)
                      have HH1 : Hid (2 ≤ z1 → Hang u L (vOf z1)) := Lib.hid (fun h2 => by have h9 := HAL.out (by trivial) _ HZM.out; have h3 := Hang.left HH0.out (by rw [h9]; exact h2); rw [h9] at h3; exact h3)
                      cases b1 with
                      | true =>
                        have HCN : Hid (ag = false → ClA C.ands B ∧ ClL (C.latches.take (q + 1)) B) := Lib.hid (fun h => ⟨(HCF.out.2.2 h).1, (HCF.out.2.2 h).2.more HZ.out (fun _ => gb1)⟩)
                        clear hcell hz hTA1 ib0 ib1 hb0 gb0 hb1 gb1
                        go_wp2
                        go_roundg (nL - (q + 1))
                        case measure => omega
                        case rel => exact ⟨q + 1, B, ag, by omega, rfl, by go_num, rfl, HBA.out, HTA1.out, HSP.out, HRT.out, HCF.out.1, HCF.out.2.1, HCN.out⟩
                      | false =>
                        have HSN : Hid (SpI u L (m + 1) (B.set (z1 / 2).toNat true)) := Lib.hid (HSP.out.set_ u1 u0 HH1.out)
                        have HRN : Hid (Rts L (B.set (z1 / 2).toNat true)) := Lib.hid (HRT.out.set_ (by rw [HSP.out.len]; exact u1))
                        have HLT : Hid (cf (B.set (z1 / 2).toNat true) < cf A1) := Lib.hid (by have h1 := cf_set_lt B (z1 / 2).toNat hb1; have h3 := HCF.out.1; omega)
                        have hfa := Blk.frozen HTA1.out (z1 / 2).toNat
                        have hla := Blk.lt HTA1.out
                        have HTN := Lib.hid (HTA1.out.set_ (z1 / 2).toNat true)
                        have HBN : Hid (Below ga W1 ((wr.alloc (.cells #[.int .i64 z0, .int .i64 z1, .int .i64 z2] 70)).setCell ⟨ga, (z1 / 2).toNat, none⟩ (.bool true))) := Lib.hid (HBA.out.setCell (Nat.le_refl _) _)
                        clear hcell hz hTA1 ib0 ib1 hb0 gb0 hb1 gb1
                        go_wp2
                        go_roundg (nL - (q + 1))
                        case measure => omega
                        case rel => exact ⟨q + 1, _, true, by omega, rfl, by go_num, rfl, HBN.out, HTN.out, HSN.out, HRN.out, Nat.le_of_lt HLT.out, (fun _ => HLT.out), (fun h => by cases h)⟩
                  · have hqe : nL = q := by omega
                    subst hqe
                    rw [List.take_of_length_le (by rw [HNL.out]; exact Nat.le_refl _)] at HCF
                    go_wp2
                    go_roundg (if ag = true then cf B + 1 else 0)
                    case rel => exact ⟨B, ag, rfl, rfl, HB.out, HTA.out, HSP.out, HRT.out, fun h => ⟨(HCF.out.2.2 h).1, fun _ => (HCF.out.2.2 h).2⟩⟩
                    case measure =>
                      cases ag with
                      | true => have := HCF.out.2.1 rfl; simp; omega
                      | false => simp
end Go.Proofs.Ytdodhbfplglbkaa

namespace Go.Proofs.Ytdodhbfplglbkaa
open Go.RowKit Go.Maps

noncomputable def inpF (C : Circ) (L : List Int) : List Int := numsF (supF (withU C) L) C.inputs 0
end Go.Proofs.Ytdodhbfplglbkaa

namespace Go.Proofs.Ytdodhbfplglbkaa
open Go.RowKit Go.Maps

set_option maxHeartbeats 8000000 in
set_option maxRecDepth 100000 in
theorem rlits_any (w : World) (V : CV) (C : Circ) (v : Value) (L : List Int) (hz : (checkR C).2 = 0) (hv : RowE 1 encI w v L) :
    Calls Try.prog 104 #[V.val C.max, v] w fun e w' => e = .returned (.int .i64 (litsE C L)) ∧ Below w.heap.size w w' := by
  have hbx0 := Blk.new w 29 (V.cells C.max)
  have HB2 := Lib.hid ((Below.refl w.heap.size w).alloc (Nat.le_refl _) (.cells (V.cells C.max) 29))
  obtain ⟨m, hm⟩ : ∃ m, C.max = m := ⟨_, rfl⟩
  have HMX := Lib.hid hm
  have hbnd : 0 ≤ m ∧ m ≤ 16384 := by have hr := right_of hz; have h1 := hr.m0; have h2 := hr.m1; omega
  rw [hm] at hbx0 HB2 ⊢
  have HX2 := Lib.hid hbx0
  have HZ := Lib.hid hz
  obtain ⟨A, c, rfl, _, _, hA⟩ := hv
  have HA := Lib.hid hA
  clear hA hbx0 hm hz
  obtain ⟨hm0, hm1⟩ := hbnd
  obtain ⟨Vi, Vl, Vo, Vb, Vc, Vj, Vf, Va, Vs, Vt⟩ := V
  generalize hl : L.length = nl at *
  have HL := Lib.hid hl
  clear hl
  by_cases hll : 16384 < nl
  · have HE : Hid (litsE C L = 2) := Lib.hid (litsE_long HZ.out (by rw [HL.out]; exact hll))
    rw [HE.out]
    have hll2 : (16384 : Int) < (nl : Int) := by omega
    go_enter Try.func104, Try.ntmps104
    go_wp2
    go_ret
    exact ⟨rfl, HB2.out⟩
  · have hll2 : ¬ (16384 : Int) < (nl : Int) := by omega
    obtain ⟨w2, hw2⟩ : ∃ w2, w.alloc (.cells (({ i := Vi, l := Vl, o := Vo, b := Vb, c := Vc, j := Vj, f := Vf, a := Va, s := Vs, t := Vt } : CV).cells m) 29) = w2 := ⟨_, rfl⟩
    have HW2 := Lib.hid hw2
    rw [hw2] at HB2 HX2
    clear hw2
    go_enter Try.func104, Try.ntmps104
    go_upto_region 1 with (fail)
    rw [HW2.out]
    go_wp2
    go_loopg [5] nl (fun j iv wx => ∃ q : Nat, q ≤ nl ∧ j = nl - q ∧ iv = .int .i64 q ∧ Below w2.heap.size w2 wx ∧ (L.take q).all (litOkB C) = true)
    case atStart => exact ⟨0, Nat.zero_le _, rfl, rfl, Below.refl _ _, rfl⟩
    case round =>
      obtain ⟨q, hq, hgk, rfl, hbl, hall⟩ := hrel
      subst hgk
      have HBL := Lib.hid hbl
      have HBW := Lib.hid (bt HB2.out (by have := HX2.out.lt; omega) hbl)
      have HALL := Lib.hid hall
      clear hall hbl
      by_cases hlt : q < nl
      · have hx := List.getElem?_eq_getElem (l := L) (i := q) (by rw [HL.out]; exact hlt)
        generalize L[q]'(by rw [HL.out]; exact hlt) = x at hx
        obtain ⟨b, off, rfl, hb, hcell⟩ := HA.out q x hx
        have h0 := (HBW.out.cell (p := ⟨b, off + (q * 1 + 0), none⟩) hb).trans (hcell 0 _ rfl)
        simp only [Nat.add_zero, Nat.mul_one] at h0
        have hc0 := (HX2.out.below HBL.out HX2.out.lt).cell 0
        simp only [List.getElem?_toArray, List.getElem?_cons_zero] at hc0
        have HX := Lib.hid hx
        clear hcell hx
        have hw1 : IntKind.i64.wrap (2 * m) = 2 * m := i64_small (by omega) (by omega)
        have hw3 : IntKind.i64.wrap (2 * m + 1) = 2 * m + 1 := i64_small (by omega) (by omega)
        have hk0 : (0 : Int) ≤ (q : Int) := by omega
        have hk1 : (q : Int) < (nl : Int) := by omega
        have HCL : Hid (∀ wz, Below wr.heap.size wr wz → wz.cell? ⟨b, off + q, none⟩ = some (.int .i64 x) ∧ wz.cell? ⟨w.heap.size, 0, none⟩ = some (.int .i64 m)) := Lib.hid (fun wz hz => ⟨(hz.cell (p := ⟨b, off + q, none⟩) (by have := HBW.out.size; show b < wr.heap.size; omega)).trans h0, (hz.cell (p := ⟨w.heap.size, 0, none⟩) (by have := HX2.out.lt; have := HBL.out.size; show w.heap.size < wr.heap.size; omega)).trans hc0⟩)
        clear h0 hc0
        by_cases h1 : x < 0
        · have HE : Hid (litsE C L = 1) := Lib.hid (litsE_one HZ.out (by rw [HL.out]; exact hll) (List.mem_of_getElem? HX.out) (by unfold litOkB; simp; omega))
          go_upto_region 6 with (fail)
          refine wp_region_quiet (C := fun wz => Below wr.heap.size wr wz) (by kernel_rfl) (by kernel_rfl) (Below.refl _ _).drew ?_
          simp only
          repeat
            first
              | go_big_quiet_skip
              | (refine wpQuiet_step (fun K hK => ?_)
                 rw [if_pos (by rfl)]
                 unfold Oper.quiet
                 apply Exists.intro
                 refine And.intro (fun wx hWx => ?_) (hK _ ?_)
                 · obtain ⟨c0, c1⟩ := HCL.out wx hWx
                   first
                     | (go_simp; exact rfl)
                 clear hK K
                 try simp only [Act.put, List.setIfInBounds_toArray, List.set_cons_zero, List.set_cons_succ])
          refine wpQuiet_nil ?_
          intro w5 hW5
          have HBD := Lib.hid (bt HBW.out (by have := HBW.out.size; omega) hW5)
          have HBE := Lib.hid (bt HBL.out (Nat.le_refl _) hW5)
          clear hW5
          go_wp2
          go_ret
          exact ⟨by rw [HE.out]; rfl, HBD.out⟩
        · by_cases h2 : 2 * m + 1 < x
          · have HE : Hid (litsE C L = 1) := Lib.hid (litsE_one HZ.out (by rw [HL.out]; exact hll) (List.mem_of_getElem? HX.out) (by unfold litOkB; rw [HMX.out]; simp; omega))
            go_upto_region 6 with (fail)
            refine wp_region_quiet (C := fun wz => Below wr.heap.size wr wz) (by kernel_rfl) (by kernel_rfl) (Below.refl _ _).drew ?_
            simp only
            repeat
              first
                | go_big_quiet_skip
                | (refine wpQuiet_step (fun K hK => ?_)
                   rw [if_pos (by rfl)]
                   unfold Oper.quiet
                   apply Exists.intro
                   refine And.intro (fun wx hWx => ?_) (hK _ ?_)
                   · obtain ⟨c0, c1⟩ := HCL.out wx hWx
                     first
                       | (go_simp; exact rfl)
                   clear hK K
                   try simp only [Act.put, List.setIfInBounds_toArray, List.set_cons_zero, List.set_cons_succ])
            refine wpQuiet_nil ?_
            intro w5 hW5
            have HBD := Lib.hid (bt HBW.out (by have := HBW.out.size; omega) hW5)
            have HBE := Lib.hid (bt HBL.out (Nat.le_refl _) hW5)
            clear hW5
            go_wp2
            go_ret
            exact ⟨by rw [HE.out]; rfl, HBD.out⟩
          · go_upto_region 6 with (fail)
            refine wp_region_quiet (C := fun wz => Below wr.heap.size wr wz) (by kernel_rfl) (by kernel_rfl) (Below.refl _ _).drew ?_
            simp only
            repeat
              first
                | go_big_quiet_skip
                | (refine wpQuiet_step (fun K hK => ?_)
                   rw [if_pos (by rfl)]
                   unfold Oper.quiet
                   apply Exists.intro
                   refine And.intro (fun wx hWx => ?_) (hK _ ?_)
                   · obtain ⟨c0, c1⟩ := HCL.out wx hWx
                     first
                       | (go_simp; exact rfl)
                   clear hK K
                   try simp only [Act.put, List.setIfInBounds_toArray, List.set_cons_zero, List.set_cons_succ])
            refine wpQuiet_nil ?_
            intro w5 hW5
            have HBD := Lib.hid (bt HBW.out (by have := HBW.out.size; omega) hW5)
            have HBE := Lib.hid (bt HBL.out (Nat.le_refl _) hW5)
            clear hW5
            go_wp2
            go_roundg (nl - (q + 1))
            case rel => exact ⟨q + 1, by omega, rfl, by go_num, HBE.out, by rw [take_more HX.out, List.all_append, HALL.out]; simp [litOkB, HMX.out]; omega⟩
            case measure => omega
      · have : q = nl := by omega
        subst this
        have HE : Hid (litsE C L = 0) := Lib.hid (litsE_all HZ.out (by rw [HL.out]; exact hll) (by have := HALL.out; rwa [List.take_of_length_le (by rw [HL.out]; exact Nat.le_refl _)] at this))
        go_wp2
        go_ret
        exact ⟨by rw [HE.out]; rfl, HBW.out⟩

set_option maxHeartbeats 8000000 in
set_option maxRecDepth 100000 in
theorem rInputsC_any (w : World) (V : CV) (C : Circ) (v : Value) (L : List Int) (h : C.In w V) (ok : C.Ok) (htn : ∀ s ∈ C.comments, s.size ≤ maxLen) (hv : RowE 1 encI w v L) :
    Calls Try.prog 53 #[V.val C.max, v] w fun e w' => Below w.heap.size w w' ∧ ∃ r, e = .returned (.tuple #[r, .int .i64 (litsE C L)]) ∧ (litsE C L ≠ 0 → r = .slice none 0 0) ∧
      (litsE C L = 0 → w'.ownsRow w.heap.size 3 1 r (inpF C L).length ((inpF C L).map (Value.int .i64))) := by
  have hb0 := (Below.refl w.heap.size w).alloc (Nat.le_refl _) (.cells (V.cells C.max) 29)
  have hbx0 := Blk.new w 29 (V.cells C.max)
  obtain ⟨W1, hW1⟩ : ∃ W1, w.alloc (.cells (V.cells C.max) 29) = W1 := ⟨_, rfl⟩
  rw [hW1] at hb0 hbx0
  have HW1 := Lib.hid hW1
  have HALL : Hid (∀ wz, Below W1.heap.size W1 wz → wz.heap[w.heap.size]? = some (.cells (V.cells C.max) 29 (0, 0)) ∧ C.In wz V ∧ RowE 1 encI wz v L ∧ Below w.heap.size w wz) := Lib.hid (fun wz hb => by
    have h2 := bt hb0 (Nat.le_refl _) hb
    exact ⟨hbx0.below hb hbx0.lt, h.below h2, hv.below h2, h2⟩)
  have HCH := Lib.hid (fun (wx : World) (hx : C.In wx V) => rCheck_any wx V C hx ok htn)
  have HRL := fun (hz : (checkR C).2 = 0) => Lib.hid (fun (wx : World) (hy : RowE 1 encI wx v L) => rlits_any wx V C v L hz hy)
  have HSP := fun (h0 : litsE C L = 0) => Lib.hid (fun (wx : World) (hx : C.In wx V) (hy : RowE 1 encI wx v L) => rspread_any wx V C v L false hx (litsE_ok h0).1 hy (litsE_ok h0).2.2 (by have := (litsE_ok h0).2.1; omega))
  obtain ⟨A, n, c, rfl⟩ : ∃ A n c, v = .slice A n c := by obtain ⟨A, c, e, _⟩ := hv; exact ⟨A, _, c, e⟩
  clear h ok hv hb0 hbx0 hW1 htn
  by_cases hz : (checkR C).2 = 0
  · replace HRL := HRL hz
    rw [hz] at HCH
    by_cases h0 : litsE C L = 0
    · replace HSP := HSP h0
      rw [h0] at HRL ⊢
      have hr := right_of hz
      have hf := fine_of hz
      have HIF : Hid (inpF C L = numsF (supF (withU C) L) C.inputs 0) := Lib.hid rfl
      have HTL : Hid ((supF (withU C) L).length = C.max.toNat + 1) := Lib.hid (by rw [supF_len, withU_len])
      have HDS : Hid (∀ d ∈ C.inputs, 0 ≤ d ∧ vOf d < C.max.toNat + 1 ∧ d / 2 ≤ 16384) := Lib.hid (fun d hd => by
        have hm : d ∈ defsL C := hf.in_mem hd
        have h1 := hr.i d hd
        have h2 := hr.m1
        exact ⟨by omega, (hf.v_lt hm).2, by omega⟩)
      have hni := hr.ni
      have hm1 := hr.m1
      rw [show uOf C false = withU C from rfl] at HSP
      obtain ⟨s, hs⟩ : ∃ s, supF (withU C) L = s := ⟨_, rfl⟩
      rw [hs] at HSP HIF HTL
      obtain ⟨nx, hnx⟩ : ∃ nx, C.max.toNat + 1 = nx := ⟨_, rfl⟩
      rw [hnx] at HSP HTL HDS
      have hnx2 : nx ≤ 20000 := by omega
      obtain ⟨Vi, Vl, Vo, Vb, Vc, Vj, Vf, Va, Vs, Vt⟩ := V
      obtain ⟨AI, cI, eI, _, _, hI⟩ := (HALL.out W1 (Below.refl _ _)).2.1.i
      simp only at eI
      subst eI
      have HI := Lib.hid hI
      obtain ⟨nI, hnI⟩ : ∃ n, C.inputs.length = n := ⟨_, rfl⟩
      rw [hnI] at HALL HCH HRL HSP HW1 hni ⊢
      have HNI := Lib.hid hnI
      obtain ⟨i0', hi0, hz0, hz1, hz2⟩ := info_of2 infoIS
      have HI0 := Lib.hid (And.intro hi0 (And.intro hz0 (And.intro hz1 hz2)))
      clear h0 hz hr hf hs hnx hI hnI hm1 hi0 hz0 hz1 hz2
      go_enter Try.func53, Try.ntmps53
      go_upto_region 1 with (fail)
      rw [HW1.out]
      have HC1 := Lib.hid (HALL.out W1 (Below.refl _ _))
      go_wp2_with (first
        | (refine wpList_load_row rfl 29 (.tmp 2) rfl w.heap.size rfl 29 (({ i := .slice AI nI cI, l := Vl, o := Vo, b := Vb, c := Vc, j := Vj, f := Vf, a := Va, s := Vs, t := Vt } : CV).cells C.max) (0, 0) _ HC1.out.1 Try.underlying29 rfl (by kernel_rfl) ?_)
        | (go_at_call 46; refine (HCH.out W1 HC1.out.2.1).mono ?_; rintro e w2 ⟨rfl, hb2⟩; have HB2 := Lib.hid hb2; have HC2 := Lib.hid (HALL.out w2 hb2); clear hb2)
        | (refine wpList_load_row rfl 29 (.tmp 2) rfl w.heap.size rfl 29 (({ i := .slice AI nI cI, l := Vl, o := Vo, b := Vb, c := Vc, j := Vj, f := Vf, a := Va, s := Vs, t := Vt } : CV).cells C.max) (0, 0) _ HC2.out.1 Try.underlying29 rfl (by kernel_rfl) ?_)
        | (go_at_call 104; refine (HRL.out w2 HC2.out.2.2.1).mono ?_; rintro e w3 ⟨rfl, hb3⟩; have HB3 := Lib.hid (bt HB2.out (Nat.le_refl _) hb3); have HC3 := Lib.hid (HALL.out w3 HB3.out); clear hb3)
        | (refine wpList_load_row rfl 29 (.tmp 2) rfl w.heap.size rfl 29 (({ i := .slice AI nI cI, l := Vl, o := Vo, b := Vb, c := Vc, j := Vj, f := Vf, a := Va, s := Vs, t := Vt } : CV).cells C.max) (0, 0) _ HC3.out.1 Try.underlying29 rfl (by kernel_rfl) ?_)
        | (go_at_call 105; refine (HSP.out w3 HC3.out.2.1 HC3.out.2.2.1).mono ?_; rintro e w4 ⟨g, rfl, hg, hb4, ht⟩; have HB4 := Lib.hid (bt HB3.out (Nat.le_refl _) hb4); have HT := Lib.hid ht; have HC4 := Lib.hid (HALL.out w4 HB4.out); clear hb4 ht))
      have hx1 := (show Blk w4 w.heap.size 29 _ from HC4.out.1).cell 1
      simp only [List.getElem?_toArray, List.getElem?_cons_succ, List.getElem?_cons_zero] at hx1
      have hgl := Blk.lt HT.out
      clear HC1 HC2 HC3
      go_loopg [10, 11] nI (fun j ov iv wr => ∃ k r : Nat, k ≤ nI ∧ iv = .int .i64 k ∧ j = nI - k ∧ (numsF s (C.inputs.take k) 0).length = r ∧ r ≤ k ∧ wr.ownsRow w4.heap.size 3 1 ov r ((numsF s (C.inputs.take k) 0).map (Value.int .i64)) ∧ Below w4.heap.size w4 wr)
      case atStart => exact ⟨0, 0, Nat.zero_le _, rfl, rfl, rfl, Nat.le_refl _, ⟨rfl, .inl ⟨rfl, rfl⟩⟩, Below.refl _ _⟩
      case round =>
        obtain ⟨k, r, hk, rfl, hgk, hrl, hrk, hown, hbl⟩ := hrel
        subst hgk
        clear hx1
        have HO := Lib.hid hown
        have HB := Lib.hid hbl
        have HBW := Lib.hid (HALL.out wr (bt HB4.out (Nat.le_refl _) hbl))
        have HRK := Lib.hid hrl
        clear hown hbl hrl
        obtain ⟨Ao, co, hov⟩ := own_slice1 HO.out
        subst hov
        have x1 := (show Blk wr w.heap.size 29 _ from HBW.out.1).cell 1
        simp only [List.getElem?_toArray, List.getElem?_cons_succ, List.getElem?_cons_zero] at x1
        by_cases hlt : k < nI
        · have hx := List.getElem?_eq_getElem (l := C.inputs) (i := k) (by rw [HNI.out]; exact hlt)
          generalize C.inputs[k]'(by rw [HNI.out]; exact hlt) = x at hx
          obtain ⟨b, off, e, hb, hcell⟩ := HI.out k x hx
          subst e
          have h0 := ((bt HB4.out (Nat.le_refl _) HB.out).cell (p := ⟨b, off + (k * 1 + 0), none⟩) hb).trans (hcell 0 _ rfl)
          simp only [Nat.add_zero, Nat.mul_one] at h0
          have hxz := HDS.out x (List.mem_of_getElem? hx)
          have hv : vOf x = (x / 2).toNat := rfl
          obtain ⟨bb, hbx⟩ : ∃ b, s[(x / 2).toNat]? = some b := ⟨_, List.getElem?_eq_getElem (by rw [HTL.out]; exact hxz.2.1)⟩
          have hgb : s.getD (vOf x) false = bb := by rw [List.getD_eq_getElem?_getD, hv, hbx]; rfl
          have hcell2 := (HB.out.cell (p := ⟨g, (x / 2).toNat, none⟩) hgl).trans (HT.out.cell hbx)
          have HST : Hid (numsF s (C.inputs.take (k + 1)) 0 = numsF s (C.inputs.take k) 0 ++ (if bb = true then [(k : Int)] else [])) := Lib.hid (by rw [take_more hx, numsF_snoc, hgb, List.length_take, HNI.out, Nat.zero_add, Nat.min_eq_left hk])
          have hq := tdiv_nn (b := 2) hxz.1
          have hq0 : 0 ≤ x / 2 := by omega
          have hq1 : x / 2 < (nx : Int) := by omega
          have hq3 : IntKind.i64.wrap (x / 2) = x / 2 := i64_small (by omega) (by omega)
          have hk0 : (0 : Int) ≤ (k : Int) := by omega
          have hk1 : (k : Int) < (nI : Int) := by omega
          clear hcell hx hxz hbx hgb hv
          cases bb
          · have HTK : Hid (numsF s (C.inputs.take (k + 1)) 0 = numsF s (C.inputs.take k) 0) := Lib.hid (by rw [HST.out]; simp)
            clear HST
            go_wp2
            go_roundg (nI - (k + 1))
            case measure => omega
            case rel => exact ⟨k + 1, r, by omega, by go_num, rfl, by rw [HTK.out]; exact HRK.out, by omega, by rw [HTK.out]; exact HO.out, HB.out⟩
          · have HTK : Hid (numsF s (C.inputs.take (k + 1)) 0 = numsF s (C.inputs.take k) 0 ++ [(k : Int)]) := Lib.hid (by rw [HST.out]; simp)
            have HR := Lib.hid (reads_oneS wr (.int .i64 (k : Int)) 3)
            have hsz := HB.out.size
            clear HST
            go_wp2_with (at_builtin; refine wpList_append_any _ rfl (.tmp 45) (.tmp 47) _ rfl w4.heap.size 3 i0' _ 1 8 Try.underlying22 HI0.out.1 HI0.out.2.1 HI0.out.2.2.1 HI0.out.2.2.2 rfl (by omega) (.slice Ao r co) r ((numsF s (C.inputs.take k) 0).map (Value.int .i64)) rfl (HO.out.alloc _) (wr.heap.size + 1) (some ⟨wr.heap.size, 0, none⟩) 1 1 [.int .i64 (k : Int)] rfl HR.out (by simp [Value.oneCell']) (by simp only [maxLen]; omega) (by omega) (by simp; omega) ?_; intro v3 w5 hown3 hg3 hat3; have HB3 := Lib.hid ((HB.out.alloc hsz (.cells #[.int .i64 (k : Int)] 3)).grown hg3 (by simp; omega) (fun g hg => (HO.out.lt g hg).1)); have HO3 := Lib.hid hown3; clear hown3 hg3 hat3)
            go_roundg (nI - (k + 1))
            case measure => omega
            case rel => exact ⟨k + 1, r + 1, by omega, by go_num, rfl, by rw [HTK.out]; simp [HRK.out], by omega, by rw [HTK.out]; simpa using HO3.out, HB3.out⟩
        · have hke : k = nI := by omega
          subst hke
          go_wp2
          go_ret2
          have h1 := HO.out
          have h2 := HRK.out
          rw [List.take_of_length_le (by rw [HNI.out]; exact Nat.le_refl _)] at h1 h2
          refine ⟨HBW.out.2.2.2, _, rfl, fun h => absurd rfl h, fun _ => ?_⟩
          rw [HIF.out, h2]
          exact own_le h1 (HC4.out.2.2.2.size)
    · clear HSP
      generalize litsE C L = e0 at *
      have H0 := Lib.hid h0
      have hq : (e0 != 0) = true := by simpa using h0
      clear h0 hz
      go_enter Try.func53, Try.ntmps53
      go_upto_region 1 with (fail)
      rw [HW1.out]
      have HC1 := Lib.hid (HALL.out W1 (Below.refl _ _))
      go_wp2_with (first
        | (refine wpList_load_row rfl 29 (.tmp 2) rfl w.heap.size rfl 29 (V.cells C.max) (0, 0) _ HC1.out.1 Try.underlying29 rfl (by kernel_rfl) ?_)
        | (go_at_call 46; refine (HCH.out W1 HC1.out.2.1).mono ?_; rintro e w2 ⟨rfl, hb2⟩; have HB2 := Lib.hid hb2; have HC2 := Lib.hid (HALL.out w2 hb2); clear hb2)
        | (refine wpList_load_row rfl 29 (.tmp 2) rfl w.heap.size rfl 29 (V.cells C.max) (0, 0) _ HC2.out.1 Try.underlying29 rfl (by kernel_rfl) ?_)
        | (go_at_call 104; refine (HRL.out w2 HC2.out.2.2.1).mono ?_; rintro e w3 ⟨rfl, hb3⟩; have HB3 := Lib.hid (bt HB2.out (Nat.le_refl _) hb3); have HC3 := Lib.hid (HALL.out w3 HB3.out); clear hb3))
      go_ret2
      exact ⟨HC3.out.2.2.2, _, rfl, fun _ => rfl, fun h => absurd h H0.out⟩
  · have HE : Hid (litsE C L = (checkR C).2) := Lib.hid (litsE_bad hz)
    rw [HE.out]
    clear HRL HSP HE
    generalize (checkR C).2 = r at *
    have H0 := Lib.hid hz
    have hq : (r != 0) = true := by simpa using hz
    clear hz
    go_enter Try.func53, Try.ntmps53
    go_upto_region 1 with (fail)
    rw [HW1.out]
    have HC1 := Lib.hid (HALL.out W1 (Below.refl _ _))
    go_wp2_with (first
      | (refine wpList_load_row rfl 29 (.tmp 2) rfl w.heap.size rfl 29 (V.cells C.max) (0, 0) _ HC1.out.1 Try.underlying29 rfl (by kernel_rfl) ?_)
      | (go_at_call 46; refine (HCH.out W1 HC1.out.2.1).mono ?_; rintro e w2 ⟨rfl, hb2⟩; have HC2 := Lib.hid (HALL.out w2 hb2); clear hb2))
    go_ret2
    exact ⟨HC2.out.2.2.2, _, rfl, fun _ => rfl, fun h => absurd h H0.out⟩
end Go.Proofs.Ytdodhbfplglbkaa

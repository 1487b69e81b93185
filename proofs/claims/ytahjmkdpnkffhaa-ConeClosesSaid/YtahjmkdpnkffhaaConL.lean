/- Cone: ConeCloses: the walk of the statement. -/
import Derived.Test.YtahjmkdpnkffhaaConK
import Derived.Test.YtahjmkdpnkffhaaArgC
namespace Go.Proofs.Ytahjmkdpnkffhaa
open Go.RowKit Go.Maps

theorem setT_get {A : List Bool} {i : Nat} (hi : i < A.length) (v : Nat) : (A.set i true).getD v false = true ↔ A.getD v false = true ∨ v = i := by
  simp only [List.getD_eq_getElem?_getD, List.getElem?_set]
  by_cases e : i = v
  · subst e
    simp [hi]
  · rw [if_neg e]
    constructor
    · exact Or.inl
    · rintro (h | h)
      · exact h
      · exact absurd h.symm e
/-- What was asked for, so far. -/
structure Asked (C : Circ) (L : List Int) (T A : List Bool) (kl ka kt : Nat) : Prop where
  len : A.length = C.max.toNat + 1
  l : ∀ l ∈ L.take kl, A.getD (vOf l) false = true
  a : ∀ z ∈ C.ands.take ka, T.getD (vOf z.1) false = true → A.getD (vOf z.2.1) false = true ∧ A.getD (vOf z.2.2) false = true
  t : ∀ z ∈ C.latches.take kt, T.getD (vOf z.1) false = true → A.getD (vOf z.2.1) false = true
section
variable {C : Circ} {L : List Int} {T A : List Bool} {kl ka kt : Nat}
theorem Asked.set_ (h : Asked C L T A kl ka kt) {i : Nat} (hi : i < C.max.toNat + 1) : Asked C L T (A.set i true) kl ka kt := by
  have hA : i < A.length := by rw [h.len]; exact hi
  exact ⟨by rw [List.length_set]; exact h.len, fun l hl => (setT_get hA _).2 (Or.inl (h.l l hl)), fun z hz hT => ⟨(setT_get hA _).2 (Or.inl (h.a z hz hT).1), (setT_get hA _).2 (Or.inl (h.a z hz hT).2)⟩, fun z hz hT => (setT_get hA _).2 (Or.inl (h.t z hz hT))⟩
theorem Asked.lit (h : Asked C L T A kl ka kt) {x : Int} (hx : L[kl]? = some x) (hi : vOf x < C.max.toNat + 1) : Asked C L T (A.set (vOf x) true) (kl + 1) ka kt := by
  have h2 := h.set_ hi
  refine ⟨h2.len, fun l hl => ?_, h2.a, h2.t⟩
  rw [take_more hx] at hl
  rcases List.mem_append.1 hl with hl | hl
  · exact h2.l l hl
  · rw [List.mem_singleton.1 hl]
    exact (setT_get (by rw [h.len]; exact hi) _).2 (Or.inr rfl)
theorem Asked.gate (h : Asked C L T A kl ka kt) {z : Tri} (hz : C.ands[ka]? = some z) (h1 : vOf z.2.1 < C.max.toNat + 1) (h2 : vOf z.2.2 < C.max.toNat + 1) : Asked C L T ((A.set (vOf z.2.1) true).set (vOf z.2.2) true) kl (ka + 1) kt := by
  have h3 := (h.set_ h1).set_ h2
  refine ⟨h3.len, h3.l, fun y hy hT => ?_, h3.t⟩
  rw [take_more hz] at hy
  rcases List.mem_append.1 hy with hy | hy
  · exact h3.a y hy hT
  · rw [List.mem_singleton.1 hy]
    exact ⟨(setT_get (by rw [(h.set_ h1).len]; exact h2) _).2 (Or.inl ((setT_get (by rw [h.len]; exact h1) _).2 (Or.inr rfl))), (setT_get (by rw [(h.set_ h1).len]; exact h2) _).2 (Or.inr rfl)⟩
theorem Asked.gate0 (h : Asked C L T A kl ka kt) {z : Tri} (hz : C.ands[ka]? = some z) (hT0 : T.getD (vOf z.1) false = false) : Asked C L T A kl (ka + 1) kt := by
  refine ⟨h.len, h.l, fun y hy hT => ?_, h.t⟩
  rw [take_more hz] at hy
  rcases List.mem_append.1 hy with hy | hy
  · exact h.a y hy hT
  · rw [List.mem_singleton.1 hy, hT0] at hT
    cases hT
theorem Asked.latch (h : Asked C L T A kl ka kt) {z : Tri} (hz : C.latches[kt]? = some z) (h1 : vOf z.2.1 < C.max.toNat + 1) : Asked C L T (A.set (vOf z.2.1) true) kl ka (kt + 1) := by
  have h3 := h.set_ h1
  refine ⟨h3.len, h3.l, h3.a, fun y hy hT => ?_⟩
  rw [take_more hz] at hy
  rcases List.mem_append.1 hy with hy | hy
  · exact h3.t y hy hT
  · rw [List.mem_singleton.1 hy]
    exact (setT_get (by rw [h.len]; exact h1) _).2 (Or.inr rfl)
theorem Asked.latch0 (h : Asked C L T A kl ka kt) {z : Tri} (hz : C.latches[kt]? = some z) (hT0 : T.getD (vOf z.1) false = false) : Asked C L T A kl ka (kt + 1) := by
  refine ⟨h.len, h.l, h.a, fun y hy hT => ?_⟩
  rw [take_more hz] at hy
  rcases List.mem_append.1 hy with hy | hy
  · exact h.t y hy hT
  · rw [List.mem_singleton.1 hy, hT0] at hT
    cases hT
theorem asked_all (hf : Fine C) (hfit : CFits (thruU C) L) (hT : T = supF (thruU C) L) (h : Asked C L T A L.length C.ands.length C.latches.length) {v : Nat} (hv : T.getD v false = true) : A.getD v false = true := by
  have key : ∀ u, T.getD u false = true ↔ Hang (thruU C) L u := fun u => by rw [hT]; exact supF_at hfit u
  have hl := h.l; have ha := h.a; have ht := h.t
  rw [List.take_length] at hl ha ht
  cases (key v).1 hv with
  | root hm h2 => exact hl _ hm
  | @left u hu h2 =>
    rcases thruU_cases C u hf with ⟨z, hz, rfl, e⟩ | ⟨z, hz, rfl, e⟩ | e
    · rw [e]; exact (ha z hz ((key _).2 hu)).1
    · rw [e]; exact ht z hz ((key _).2 hu)
    · rw [e] at h2; simp at h2
  | @right u hu h2 =>
    rcases thruU_cases C u hf with ⟨z, hz, rfl, e⟩ | ⟨z, hz, rfl, e⟩ | e
    · rw [e]; exact (ha z hz ((key _).2 hu)).2
    · rw [e] at h2; simp at h2
    · rw [e] at h2; simp at h2
/-- A cone is closed. -/
theorem sup_lit (hfit : CFits (thruU C) L) {l : Int} (hl : l ∈ L) (h2 : 2 ≤ l) : (supF (thruU C) L).getD (vOf l) false = true := (supF_at hfit _).2 (Hang.root hl h2)
theorem sup_gate (hf : Fine C) (hfit : CFits (thruU C) L) {z : Tri} (hz : z ∈ C.ands) (h : (supF (thruU C) L).getD (vOf z.1) false = true) : (2 ≤ z.2.1 → (supF (thruU C) L).getD (vOf z.2.1) false = true) ∧ (2 ≤ z.2.2 → (supF (thruU C) L).getD (vOf z.2.2) false = true) := by
  have hh := (supF_at hfit _).1 h
  have e := thruU_and hf hz
  refine ⟨fun h2 => ?_, fun h2 => ?_⟩
  · have := Hang.left hh (by rw [e]; exact h2)
    rw [e] at this
    exact (supF_at hfit _).2 this
  · have := Hang.right hh (by rw [e]; exact h2)
    rw [e] at this
    exact (supF_at hfit _).2 this
theorem sup_latch (hf : Fine C) (hfit : CFits (thruU C) L) {z : Tri} (hz : z ∈ C.latches) (h : (supF (thruU C) L).getD (vOf z.1) false = true) : 2 ≤ z.2.1 → (supF (thruU C) L).getD (vOf z.2.1) false = true := fun h2 => by
  have hh := (supF_at hfit _).1 h
  have e := thruU_latch hf hz
  have := Hang.left hh (by rw [e]; exact h2)
  rw [e] at this
  exact (supF_at hfit _).2 this
theorem sup_zero (hfit : CFits (thruU C) L) : (supF (thruU C) L).getD 0 false = false := by
  rcases e : (supF (thruU C) L).getD 0 false with _ | _
  · rfl
  · exact absurd ((supF_at hfit _).1 e).lt (fun h => by have := (h hfit).1; omega)
end

set_option maxHeartbeats 20000000 in
set_option maxRecDepth 100000 in
theorem coneCloses_walk (w : World) (V : CV) (C : Circ) (v : Value) (L : List Int) (h : C.In w V) (ok : C.Ok) (hv : RowE 1 encI w v L) :
    Calls Try.prog 12 #[V.val C.max, v] w fun e w' => e = .returned (.bool true) ∧ Below w.heap.size w w' := by
  have hb0 := (Below.refl w.heap.size w).alloc (Nat.le_refl _) (.cells (V.cells C.max) 51)
  have hbx0 := Blk.new w 51 (V.cells C.max)
  obtain ⟨W1, hW1⟩ : ∃ W1, w.alloc (.cells (V.cells C.max) 51) = W1 := ⟨_, rfl⟩
  rw [hW1] at hb0 hbx0
  have HW1 := Lib.hid hW1
  have HWK := Lib.hid (fun wz => worksC_any wz)
  have HSU := Lib.hid (fun (wx : World) (hx : C.In wx V) (hy : RowE 1 encI wx v L) => Support_any wx V C v L hx ok hy)
  obtain ⟨Vi, Vl, Vo, Vb, Vc, Vj, Vf, Va, Vs, Vt⟩ := V
  obtain ⟨AL, cL, eL, _, _, hL⟩ := h.l
  obtain ⟨AA, cA, eA, _, _, hA⟩ := h.a
  obtain ⟨LA, lc, eV, _, _, hLL⟩ := hv
  simp only at eL eA
  subst eL eA eV
  have HAX : Hid (∀ wz, Below W1.heap.size W1 wz → wz.heap[w.heap.size]? = some (.cells #[.int .i64 C.max, Vi, .slice AL C.latches.length cL, Vo, Vb, Vc, Vj, Vf, .slice AA C.ands.length cA, Vs, Vt] 51 (0, 0)) ∧ C.In wz { i := Vi, l := .slice AL C.latches.length cL, o := Vo, b := Vb, c := Vc, j := Vj, f := Vf, a := .slice AA C.ands.length cA, s := Vs, t := Vt } ∧ RowE 1 encI wz (.slice LA L.length lc) L ∧ Below w.heap.size w wz) := Lib.hid (fun wz hb => by
    have h2 := bt hb0 (Nat.le_refl _) hb
    exact ⟨hbx0.below hb hbx0.lt, h.below h2, (show RowE 1 encI w (.slice LA L.length lc) L from ⟨LA, lc, rfl, by assumption, by assumption, hLL⟩).below h2, h2⟩)
  have HL := Lib.hid hL
  have HA := Lib.hid hA
  have HLL := Lib.hid hLL
  clear h ok hb0 hbx0 hW1 hL hA hLL
  by_cases h0 : litsE C L = 0
  · obtain ⟨hz, hl16, hlf⟩ := litsE_ok h0
    have hf := fine_of hz
    have hr := right_of hz
    have hfit := fits_thru hf hlf
    have HLF := Lib.hid hlf
    have HF := Lib.hid hf
    have HRT := Lib.hid hr
    have HFT := Lib.hid hfit
    have HTL : Hid ((supF (thruU C) L).length = C.max.toNat + 1) := Lib.hid (by rw [supF_len, thruU_len])
    obtain ⟨T, hT⟩ : ∃ T, T = supF (thruU C) L := ⟨_, rfl⟩
    have HT := Lib.hid hT
    have HT0 : Hid (T.getD 0 false = false) := Lib.hid (by rw [hT]; exact sup_zero hfit)
    have HSL : Hid (∀ l ∈ L, 2 ≤ l → T.getD (vOf l) false = true) := Lib.hid (fun l hl h2 => by rw [hT]; exact sup_lit hfit hl h2)
    have HSG : Hid (∀ z ∈ C.ands, T.getD (vOf z.1) false = true → (2 ≤ z.2.1 → T.getD (vOf z.2.1) false = true) ∧ (2 ≤ z.2.2 → T.getD (vOf z.2.2) false = true)) := Lib.hid (fun z hz h2 => by rw [hT] at h2 ⊢; exact sup_gate hf hfit hz h2)
    have HST : Hid (∀ z ∈ C.latches, T.getD (vOf z.1) false = true → 2 ≤ z.2.1 → T.getD (vOf z.2.1) false = true) := Lib.hid (fun z hz h2 => by rw [hT] at h2 ⊢; exact sup_latch hf hfit hz h2)
    have HEND : Hid (∀ A, Asked C L T A L.length C.ands.length C.latches.length → ∀ v : Nat, T.getD v false = true → A.getD v false = true) := Lib.hid (fun A hA v hv => asked_all hf hfit hT hA hv)
    rw [← hT] at HTL HSU
    obtain ⟨m, hmm⟩ : ∃ m : Nat, C.max = (m : Int) := ⟨C.max.toNat, by have := hr.m0; omega⟩
    have hm16 : m ≤ 16384 := by have := hr.m1; omega
    have HMM : Hid (C.max.toNat = m) := Lib.hid (by rw [hmm]; rfl)
    rw [h0] at HSU
    rw [HMM.out] at HTL HSU
    rw [hmm] at HAX HSU HW1 ⊢
    have HIF : Hid (∀ z ∈ C.ands, (0 ≤ z.1 ∧ vOf z.1 < m + 1 ∧ z.1 / 2 ≤ (m : Int)) ∧ (0 ≤ z.2.1 ∧ vOf z.2.1 < m + 1 ∧ z.2.1 / 2 ≤ (m : Int)) ∧ (0 ≤ z.2.2 ∧ vOf z.2.2 < m + 1 ∧ z.2.2 / 2 ≤ (m : Int))) := Lib.hid (fun z hz => by
      obtain ⟨⟨a1, a2⟩, ⟨b1, b2⟩, ⟨c1, c2⟩⟩ := fitT_of hr z hz
      unfold vOf
      exact ⟨⟨a1, by omega, by omega⟩, ⟨b1, by omega, by omega⟩, ⟨c1, by omega, by omega⟩⟩)
    have HIT : Hid (∀ z ∈ C.latches, (0 ≤ z.1 ∧ vOf z.1 < m + 1 ∧ z.1 / 2 ≤ (m : Int)) ∧ (0 ≤ z.2.1 ∧ vOf z.2.1 < m + 1 ∧ z.2.1 / 2 ≤ (m : Int))) := Lib.hid (fun z hz => by
      obtain ⟨⟨a1, a2⟩, ⟨b1, b2⟩, _⟩ := hr.l z hz
      unfold vOf
      exact ⟨⟨by omega, by omega, by omega⟩, ⟨b1, by omega, by omega⟩⟩)
    have HIL : Hid (∀ l ∈ L, 0 ≤ l ∧ vOf l < m + 1 ∧ l / 2 ≤ (m : Int)) := Lib.hid (fun l hl => by
      have := hlf l hl
      unfold vOf
      exact ⟨this.1, by omega, by omega⟩)
    have hnL16 := hr.nl
    have hnA16 := hr.na
    clear hz hlf hf hr hfit hT h0 hmm
    obtain ⟨nL, hnL⟩ : ∃ n, C.latches.length = n := ⟨_, rfl⟩
    obtain ⟨nA, hnA⟩ : ∃ n, C.ands.length = n := ⟨_, rfl⟩
    obtain ⟨nl, hnl⟩ : ∃ n, L.length = n := ⟨_, rfl⟩
    rw [hnL] at HAX HSU HW1 hnL16 HEND ⊢
    rw [hnA] at HAX HSU HW1 hnA16 HEND ⊢
    rw [hnl] at HAX HSU hl16 HEND ⊢
    have HNL := Lib.hid hnL
    have HNA := Lib.hid hnA
    have HNl := Lib.hid hnl
    clear hnL hnA hnl
    go_enter Try.func12, Try.ntmps12
    go_upto_region 1 with (fail)
    rw [HW1.out]
    go_upto_region 3 with (go_at_call 45; refine (HWK.out _).mono ?_; rintro e w2 ⟨rfl, hb2⟩; have HB2 := Lib.hid hb2; clear hb2)
    have HC2 := Lib.hid (HAX.out w2 HB2.out)
    go_upto_region 6 with (first
      | (refine wpList_load_row rfl 51 (.tmp 2) rfl w.heap.size rfl 51 #[.int .i64 m, Vi, .slice AL nL cL, Vo, Vb, Vc, Vj, Vf, .slice AA nA cA, Vs, Vt] (0, 0) _ HC2.out.1 Try.underlying51 rfl (by kernel_rfl) ?_)
      | (go_at_call 38; refine (HSU.out w2 HC2.out.2.1 HC2.out.2.2.1).mono ?_; rintro e w3 ⟨hb3, r, rfl, _, hyes⟩; obtain ⟨g, rfl, hg, ht⟩ := hyes (by first | rfl | trivial); have HB3 := Lib.hid (bt HB2.out (Nat.le_refl _) hb3); have HTB := Lib.hid ht; clear hb3 ht hyes hg))
    have HX3 : Hid (Blk w3 w.heap.size 51 #[.int .i64 m, Vi, .slice AL nL cL, Vo, Vb, Vc, Vj, Vf, .slice AA nA cA, Vs, Vt]) := Lib.hid (HAX.out w3 HB3.out).1
    have HBW3 := Lib.hid (HAX.out w3 HB3.out).2.2.2
    have hxc := HX3.out.cell 0
    simp only [List.getElem?_toArray, List.getElem?_cons_zero] at hxc
    have ht0 : w3.cell? ⟨g, 0, none⟩ = some (.bool false) := by
      obtain ⟨x, hx⟩ : ∃ x, T[0]? = some x := ⟨_, List.getElem?_eq_getElem (by rw [HTL.out]; omega)⟩
      have h9 := HT0.out
      rw [List.getD_eq_getElem?_getD, hx] at h9
      simp only [Option.getD_some] at h9
      rw [h9] at hx
      exact HTB.out.cell hx
    have hmk := make_bools (m + 1) (by omega)
    push_cast at hmk
    have hwm : IntKind.i64.wrap ((m : Int) + 1) = (m : Int) + 1 := i64_small (by omega) (by omega)
    have HTA := Lib.hid (new_supp w3 (m + 1))
    have HB4 : Hid (Below w3.heap.size w3 (w3.alloc (.cells (madeCells #[Value.bool false] (m + 1)) 4))) := Lib.hid ((Below.refl _ _).alloc (Nat.le_refl _) _)
    have HASK : Hid (Asked C L T (List.replicate (m + 1) false) 0 0 0) := Lib.hid ⟨by rw [List.length_replicate, HMM.out], fun l hl => by simp at hl, fun z hz => by simp at hz, fun z hz => by simp at hz⟩
    obtain ⟨ga, hga⟩ : ∃ ga, w3.heap.size = ga := ⟨_, rfl⟩
    have hgl : g < ga := by rw [← hga]; exact Blk.lt HTB.out
    have HTG : Hid (∀ wz, Below ga w3 wz → ∀ (i : Nat) (b : Bool), i < m + 1 → T.getD i false = b → wz.cell? ⟨g, i, none⟩ = some (.bool b)) := Lib.hid (fun wz hz i b hi hb => by
      obtain ⟨x, hx⟩ : ∃ x, T[i]? = some x := ⟨_, List.getElem?_eq_getElem (by rw [HTL.out]; exact hi)⟩
      rw [List.getD_eq_getElem?_getD, hx] at hb
      simp only [Option.getD_some] at hb
      subst hb
      exact (hz.cell (p := ⟨g, i, none⟩) hgl).trans (HTB.out.cell hx))
    have HCX : Hid (∀ wz, Below ga w3 wz → wz.cell? ⟨w.heap.size, 0, none⟩ = some (.int .i64 m) ∧ wz.cell? ⟨w.heap.size, 2, none⟩ = some (.slice AL nL cL) ∧ wz.cell? ⟨w.heap.size, 8, none⟩ = some (.slice AA nA cA) ∧ Below w.heap.size w wz) := Lib.hid (fun wz hz => by
      rw [← hga] at hz
      have q := HX3.out.below hz HX3.out.lt
      exact ⟨q.cell 0, q.cell 2, q.cell 8, bt HBW3.out (Nat.le_refl _) hz⟩)
    rw [hga] at HTA HB4
    clear HC2
    go_wp2
    go_loopg [45] nl (fun j iv wx => ∃ (q : Nat) (A : List Bool), q ≤ nl ∧ j = nl - q ∧ iv = .int .i64 q ∧ Below ga w3 wx ∧ Tab wx ga A ∧ Asked C L T A q 0 0)
    case atStart => exact ⟨0, _, Nat.zero_le _, rfl, rfl, HB4.out, HTA.out, HASK.out⟩
    case round =>
      obtain ⟨q, A, hq, hgk, rfl, hbl, hta, hask⟩ := hrel
      subst hgk
      clear HB4 HTA HASK
      have HB := Lib.hid hbl
      have HTA := Lib.hid hta
      have HASK := Lib.hid hask
      clear hbl hta hask
      by_cases hlt : q < nl
      · obtain ⟨x, hx⟩ : ∃ x, L[q]? = some x := ⟨_, List.getElem?_eq_getElem (by rw [HNl.out]; exact hlt)⟩
        obtain ⟨b, off, e, hb, hcell⟩ := HLL.out q x hx
        subst e
        have h0 := ((HCX.out wr HB.out).2.2.2.cell (p := ⟨b, off + (q * 1 + 0), none⟩) hb).trans (hcell 0 _ rfl)
        simp only [Nat.add_zero, Nat.mul_one] at h0
        obtain ⟨x0, x1, x2⟩ := HIL.out x (List.mem_of_getElem? hx)
        have HXM : Hid (x ∈ L) := Lib.hid (List.mem_of_getElem? hx)
        have hAl : A.length = m + 1 := by rw [HASK.out.len, HMM.out]
        have hxv : (x / 2).toNat < m + 1 := x1
        obtain ⟨y, hy⟩ : ∃ y, A[(x / 2).toNat]? = some y := ⟨_, List.getElem?_eq_getElem (by rw [hAl]; exact hxv)⟩
        have hca := HTA.out.cell hy
        have hfa := Blk.frozen HTA.out (x / 2).toNat
        have hla := Blk.lt HTA.out
        have HAN : Hid (Asked C L T (A.set (x / 2).toNat true) (q + 1) 0 0) := Lib.hid (HASK.out.lit hx (by rw [HMM.out]; exact x1))
        have HTN := Lib.hid (HTA.out.set_ (x / 2).toNat true)
        have HBN : Hid (Below ga w3 (wr.setCell ⟨ga, (x / 2).toNat, none⟩ (.bool true))) := Lib.hid (HB.out.setCell (Nat.le_refl _) _)
        have hqt := tdiv_nn (b := 2) x0
        have hq0 : 0 ≤ x / 2 := by omega
        have hq1 : x / 2 < (m : Int) + 1 := by omega
        have hq3 : IntKind.i64.wrap (x / 2) = x / 2 := i64_small (by omega) (by omega)
        have hk0 : (0 : Int) ≤ (q : Int) := by omega
        have hk1 : (q : Int) < (nl : Int) := by omega
        clear hcell hx hy hAl x1
        by_cases c1 : 1 < x
        · have hc1 := HTG.out wr HB.out (x / 2).toNat true hxv (HSL.out x HXM.out (by omega))
          clear hxv
          go_wp2
          go_roundg (nl - (q + 1))
          case measure => omega
          case rel => exact ⟨q + 1, _, by omega, rfl, by go_num, HBN.out, HTN.out, HAN.out⟩
        · clear hxv
          go_wp2
          go_roundg (nl - (q + 1))
          case measure => omega
          case rel => exact ⟨q + 1, _, by omega, rfl, by go_num, HBN.out, HTN.out, HAN.out⟩
      · have hqe : nl = q := by omega
        subst hqe
        obtain ⟨y0, y2, y8, _⟩ := HCX.out wr HB.out
        go_wp2
        go_loopg [67] nA (fun j iv wx => ∃ (q : Nat) (A : List Bool), q ≤ nA ∧ j = nA - q ∧ iv = .int .i64 q ∧ Below ga w3 wx ∧ Tab wx ga A ∧ Asked C L T A nl q 0)
        case atStart => exact ⟨0, _, Nat.zero_le _, rfl, rfl, HB.out, HTA.out, HASK.out⟩
        case round =>
          clear HB HTA HASK
          obtain ⟨q, A, hq, hgk, rfl, hbl, hta, hask⟩ := hrel
          subst hgk
          have HB := Lib.hid hbl
          have HTA := Lib.hid hta
          have HASK := Lib.hid hask
          clear hbl hta hask
          by_cases hlt : q < nA
          · obtain ⟨⟨z0, z1, z2⟩, hz⟩ : ∃ z, C.ands[q]? = some z := ⟨_, List.getElem?_eq_getElem (by rw [HNA.out]; exact hlt)⟩
            obtain ⟨b, off, e, hb, hcell⟩ := HA.out q (z0, z1, z2) hz
            subst e
            have h0 := ((HCX.out wr HB.out).2.2.2.cell (p := ⟨b, off + (q * 3 + 0), none⟩) hb).trans (hcell 0 _ rfl)
            have h1 := ((HCX.out wr HB.out).2.2.2.cell (p := ⟨b, off + (q * 3 + 1), none⟩) hb).trans (hcell 1 _ rfl)
            have h2 := ((HCX.out wr HB.out).2.2.2.cell (p := ⟨b, off + (q * 3 + 2), none⟩) hb).trans (hcell 2 _ rfl)
            simp only [Nat.add_zero, ← Nat.add_assoc] at h0 h1 h2
            obtain ⟨⟨x0, x1, x2⟩, ⟨u0, u1, u2⟩, v0, v1, v2⟩ := HIF.out (z0, z1, z2) (List.mem_of_getElem? hz)
            simp only at x0 x1 x2 u0 u1 u2 v0 v1 v2
            have HZM : Hid ((z0, z1, z2) ∈ C.ands) := Lib.hid (List.mem_of_getElem? hz)
            have HZ := Lib.hid hz
            have hBA : Below ga w3 (wr.alloc (.cells #[.int .i64 z0, .int .i64 z1, .int .i64 z2] 43)) := HB.out.alloc (by have := Blk.lt HTA.out; omega) _
            have HBA := Lib.hid hBA
            have hTA1 : Tab (wr.alloc (.cells #[.int .i64 z0, .int .i64 z1, .int .i64 z2] 43)) ga A := Blk.alloc HTA.out _
            have HTA1 := Lib.hid hTA1
            have hqt := tdiv_nn (b := 2) x0
            have hq0 : 0 ≤ z0 / 2 := by omega
            have hq1 : z0 / 2 < (m : Int) + 1 := by omega
            have hq3 : IntKind.i64.wrap (z0 / 2) = z0 / 2 := i64_small (by omega) (by omega)
            have hk0 : (0 : Int) ≤ (q : Int) := by omega
            have hk1 : (q : Int) < (nA : Int) := by omega
            obtain ⟨bt0, hbt⟩ : ∃ b, T.getD (vOf z0) false = b := ⟨_, rfl⟩
            have hct := HTG.out _ HBA.out (z0 / 2).toNat bt0 x1 hbt
            clear hcell hz hBA hTA1
            cases bt0 with
            | false =>
              have HAN := Lib.hid (HASK.out.gate0 HZ.out hbt)
              clear hbt
              go_wp2
              go_roundg (nA - (q + 1))
              case measure => omega
              case rel => exact ⟨q + 1, A, by omega, rfl, by go_num, HBA.out, HTA1.out, HAN.out⟩
            | true =>
              have hsg := HSG.out _ HZM.out hbt
              simp only at hsg
              have hut := tdiv_nn (b := 2) u0
              have hu0 : 0 ≤ z1 / 2 := by omega
              have hu1 : z1 / 2 < (m : Int) + 1 := by omega
              have hu3 : IntKind.i64.wrap (z1 / 2) = z1 / 2 := i64_small (by omega) (by omega)
              have hvt := tdiv_nn (b := 2) v0
              have hv0 : 0 ≤ z2 / 2 := by omega
              have hv1 : z2 / 2 < (m : Int) + 1 := by omega
              have hv3 : IntKind.i64.wrap (z2 / 2) = z2 / 2 := i64_small (by omega) (by omega)
              have hAl : A.length = m + 1 := by rw [HASK.out.len, HMM.out]
              obtain ⟨y1, hy1⟩ : ∃ y, A[(z1 / 2).toNat]? = some y := ⟨_, List.getElem?_eq_getElem (by rw [hAl]; exact u1)⟩
              obtain ⟨y2, hy2⟩ : ∃ y, (A.set (z1 / 2).toNat true)[(z2 / 2).toNat]? = some y := ⟨_, List.getElem?_eq_getElem (by rw [List.length_set, hAl]; exact v1)⟩
              have hT1 : Tab (wr.alloc (.cells #[.int .i64 z0, .int .i64 z1, .int .i64 z2] 43)).drew ga A := HTA1.out
              have hT2 := hT1.set_ (z1 / 2).toNat true
              have hz1 : Blk (wr.alloc (.cells #[.int .i64 z0, .int .i64 z1, .int .i64 z2] 43)).drew wr.heap.size 43 #[.int .i64 z0, .int .i64 z1, .int .i64 z2] := Blk.new wr _ _
              have hga2 : wr.heap.size ≠ ga := by have := Blk.lt HTA.out; omega
              have hz2 := hz1.far (p := ⟨ga, (z1 / 2).toNat, none⟩) hga2 (.bool true)
              have hz3 := hz2.far (p := ⟨ga, (z2 / 2).toNat, none⟩) hga2 (.bool true)
              have HZ1 := Lib.hid (And.intro (hz1.cell 1) (hz1.cell 2))
              have HZ2 := Lib.hid (And.intro (hz2.cell 1) (hz2.cell 2))
              have HZ3 := Lib.hid (And.intro (hz3.cell 1) (hz3.cell 2))
              have HCA1 := Lib.hid (And.intro (hT1.cell hy1) (And.intro (Blk.frozen hT1 (z1 / 2).toNat) (Blk.lt hT1)))
              have hT2d : Tab ((wr.alloc (.cells #[.int .i64 z0, .int .i64 z1, .int .i64 z2] 43)).setCell ⟨ga, (z1 / 2).toNat, none⟩ (.bool true)).drew ga (A.set (z1 / 2).toNat true) := hT2
              have HCA2 := Lib.hid (And.intro (hT2d.cell hy2) (And.intro (Blk.frozen hT2d (z2 / 2).toNat) (Blk.lt hT2d)))
              have HTN := Lib.hid (hT2.set_ (z2 / 2).toNat true)
              have HBN : Hid (Below ga w3 (((wr.alloc (.cells #[.int .i64 z0, .int .i64 z1, .int .i64 z2] 43)).drew.setCell ⟨ga, (z1 / 2).toNat, none⟩ (.bool true)).setCell ⟨ga, (z2 / 2).toNat, none⟩ (.bool true))) := Lib.hid ((HBA.out.drew.setCell (Nat.le_refl _) _).setCell (Nat.le_refl _) _)
              have HAN : Hid (Asked C L T ((A.set (z1 / 2).toNat true).set (z2 / 2).toNat true) nl (q + 1) 0) := Lib.hid (HASK.out.gate HZ.out (by rw [HMM.out]; exact u1) (by rw [HMM.out]; exact v1))
              clear hy1 hy2 hT1 hT2 hT2d hz1 hz2 hz3 hAl
              by_cases c1 : 1 < z1
              · by_cases c2 : 1 < z2
                · have hc1 := HTG.out _ HBA.out (z1 / 2).toNat true u1 (hsg.1 (by omega))
                  have hc2 := HTG.out _ HBA.out (z2 / 2).toNat true v1 (hsg.2 (by omega))
                  clear hsg hbt x1 u1 v1
                  go_upto_region 22 with (fail)
                  refine wp_region_T (by kernel_rfl) (fun w' => w'.cell? ⟨wr.heap.size, 1, none⟩ = some (.int .i64 z1) ∧ w'.cell? ⟨wr.heap.size, 2, none⟩ = some (.int .i64 z2)) 12 ?_
                  have hHeld := HZ1.out
                  refine wpAnyT_take (i := 0) (oi := { dst := some 103, op := Op.move (Operand.tmp 7), type := 60, pos := "theorems.go:90", after := #[], guard := none }) (v := ?v0r22q1) rfl (by kernel_rfl) (fun _ _ _ h => h) (by rfl) hHeld ?h0r22q1 ?_
                  case h0r22q1 => (intro w' hSw; (try dsimp only at hSw); go_simp; try with_reducible rfl)
                  (try simp only [Act.put, List.setIfInBounds_toArray, List.set_cons_zero, List.set_cons_succ])
                  refine wpAnyT_take (i := 1) (oi := { dst := some 104, op := Op.fieldAddr 43 (Operand.tmp 11) 1, type := 0, pos := "theorems.go:90", after := #[], guard := none }) (v := ?v1r22q1) rfl (by kernel_rfl) (fun _ _ _ h => h) (by rfl) hHeld ?h1r22q1 ?_
                  case h1r22q1 => (intro w' hSw; (try dsimp only at hSw); go_simp; try with_reducible rfl)
                  (try simp only [Act.put, List.setIfInBounds_toArray, List.set_cons_zero, List.set_cons_succ])
                  refine wpAnyT_take (i := 2) (oi := { dst := some 105, op := Op.load 3 (Operand.tmp 104), type := 3, pos := "theorems.go:90", after := #[{ on := 1, ground := Ground.data }], guard := none }) (v := ?v2r22q1) rfl (by kernel_rfl) (fun _ _ _ h => h) (by rfl) hHeld ?h2r22q1 ?_
                  case h2r22q1 => (intro w' hSw; (try dsimp only at hSw); go_simp; try with_reducible rfl)
                  (try simp only [Act.put, List.setIfInBounds_toArray, List.set_cons_zero, List.set_cons_succ])
                  refine wpAnyT_take (i := 3) (oi := { dst := some 106, op := Op.binOp BinOp.quo 3 (Operand.tmp 105) (Operand.const (Value.int IntKind.i64 2)) 3, type := 3, pos := "theorems.go:90", after := #[{ on := 2, ground := Ground.data }], guard := none }) (v := ?v3r22q1) rfl (by kernel_rfl) (fun _ _ _ h => h) (by rfl) hHeld ?h3r22q1 ?_
                  case h3r22q1 => (intro w' hSw; (try dsimp only at hSw); go_simp; try with_reducible rfl)
                  (try simp only [Act.put, List.setIfInBounds_toArray, List.set_cons_zero, List.set_cons_succ])
                  refine wpAnyT_take (i := 4) (oi := { dst := some 107, op := Op.move (Operand.tmp 7), type := 60, pos := "theorems.go:90", after := #[{ on := 9, ground := Ground.gcOnly Departure.lateStores }], guard := none }) (v := ?v4r22q1) rfl (by kernel_rfl) (fun _ _ _ h => h) (by rfl) hHeld ?h4r22q1 ?_
                  case h4r22q1 => (intro w' hSw; (try dsimp only at hSw); go_simp; try with_reducible rfl)
                  (try simp only [Act.put, List.setIfInBounds_toArray, List.set_cons_zero, List.set_cons_succ])
                  refine wpAnyT_take (i := 5) (oi := { dst := some 108, op := Op.fieldAddr 43 (Operand.tmp 11) 2, type := 0, pos := "theorems.go:90", after := #[{ on := 9, ground := Ground.gcOnly Departure.lateStores }], guard := none }) (v := ?v5r22q1) rfl (by kernel_rfl) (fun _ _ _ h => h) (by rfl) hHeld ?h5r22q1 ?_
                  case h5r22q1 => (intro w' hSw; (try dsimp only at hSw); go_simp; try with_reducible rfl)
                  (try simp only [Act.put, List.setIfInBounds_toArray, List.set_cons_zero, List.set_cons_succ])
                  refine wpAnyT_take (i := 6) (oi := { dst := some 109, op := Op.load 3 (Operand.tmp 108), type := 3, pos := "theorems.go:90", after := #[{ on := 5, ground := Ground.data }, { on := 9, ground := Ground.gcOnly Departure.lateStores }], guard := none }) (v := ?v6r22q1) rfl (by kernel_rfl) (fun _ _ _ h => h) (by rfl) hHeld ?h6r22q1 ?_
                  case h6r22q1 => (intro w' hSw; (try dsimp only at hSw); go_simp; try with_reducible rfl)
                  (try simp only [Act.put, List.setIfInBounds_toArray, List.set_cons_zero, List.set_cons_succ])
                  refine wpAnyT_take (i := 7) (oi := { dst := some 110, op := Op.binOp BinOp.quo 3 (Operand.tmp 109) (Operand.const (Value.int IntKind.i64 2)) 3, type := 3, pos := "theorems.go:90", after := #[{ on := 6, ground := Ground.data }, { on := 9, ground := Ground.gcOnly Departure.lateStores }], guard := none }) (v := ?v7r22q1) rfl (by kernel_rfl) (fun _ _ _ h => h) (by rfl) hHeld ?h7r22q1 ?_
                  case h7r22q1 => (intro w' hSw; (try dsimp only at hSw); go_simp; try with_reducible rfl)
                  (try simp only [Act.put, List.setIfInBounds_toArray, List.set_cons_zero, List.set_cons_succ])
                  refine wpAnyT_take (i := 8) (oi := { dst := some 111, op := Op.indexAddr 60 (Operand.tmp 103) (Operand.tmp 106), type := 0, pos := "theorems.go:90", after := #[{ on := 0, ground := Ground.data }, { on := 3, ground := Ground.data }, { on := 0, ground := Ground.phase }, { on := 1, ground := Ground.phase }, { on := 2, ground := Ground.phase }, { on := 3, ground := Ground.phase }, { on := 4, ground := Ground.textOnly Departure.lateStores }, { on := 5, ground := Ground.textOnly Departure.lateStores }, { on := 6, ground := Ground.textOnly Departure.lateStores }, { on := 7, ground := Ground.textOnly Departure.lateStores }], guard := none }) (v := ?v8r22q1) rfl (by kernel_rfl) (fun _ _ _ h => h) (by rfl) hHeld ?h8r22q1 ?_
                  case h8r22q1 => (intro w' hSw; (try dsimp only at hSw); go_simp; try with_reducible rfl)
                  (try simp only [Act.put, List.setIfInBounds_toArray, List.set_cons_zero, List.set_cons_succ])
                  clear hHeld
                  obtain ⟨k1, k2, k3⟩ := HCA1.out
                  refine wpAnyT_one (i := 9) (o := { dst := none, op := Op.store 4 (Operand.tmp 111) (Operand.const (Value.bool true)), type := 0, pos := "theorems.go:90", after := #[{ on := 8, ground := Ground.data }, { on := 0, ground := Ground.phase }, { on := 1, ground := Ground.phase }, { on := 2, ground := Ground.phase }, { on := 3, ground := Ground.phase }, { on := 4, ground := Ground.textOnly Departure.lateStores }, { on := 5, ground := Ground.textOnly Departure.lateStores }, { on := 6, ground := Ground.textOnly Departure.lateStores }, { on := 7, ground := Ground.textOnly Departure.lateStores }], guard := none }) rfl (by kernel_rfl) (fun K hK => ?_)
                  go_simp
                  refine hK.out _ _ (fun _ => HZ2.out) ?_
                  clear hK K k1 k2 k3
                  (try simp only [Act.put, List.setIfInBounds_toArray, List.set_cons_zero, List.set_cons_succ])
                  have hHeld := HZ2.out
                  refine wpAnyT_take (i := 10) (oi := { dst := some 112, op := Op.indexAddr 60 (Operand.tmp 107) (Operand.tmp 110), type := 0, pos := "theorems.go:90", after := #[{ on := 4, ground := Ground.data }, { on := 7, ground := Ground.data }, { on := 0, ground := Ground.phase }, { on := 1, ground := Ground.phase }, { on := 2, ground := Ground.phase }, { on := 3, ground := Ground.phase }, { on := 4, ground := Ground.phase }, { on := 5, ground := Ground.phase }, { on := 6, ground := Ground.phase }, { on := 7, ground := Ground.phase }, { on := 8, ground := Ground.phase }, { on := 9, ground := Ground.phase }], guard := none }) (v := ?v10r22q2) rfl (by kernel_rfl) (fun _ _ _ h => h) (by rfl) hHeld ?h10r22q2 ?_
                  case h10r22q2 => (intro w' hSw; (try dsimp only at hSw); go_simp; try with_reducible rfl)
                  (try simp only [Act.put, List.setIfInBounds_toArray, List.set_cons_zero, List.set_cons_succ])
                  clear hHeld
                  obtain ⟨k1, k2, k3⟩ := HCA2.out
                  refine wpAnyT_one (i := 11) (o := { dst := none, op := Op.store 4 (Operand.tmp 112) (Operand.const (Value.bool true)), type := 0, pos := "theorems.go:90", after := #[{ on := 10, ground := Ground.data }, { on := 9, ground := Ground.chain }, { on := 0, ground := Ground.phase }, { on := 1, ground := Ground.phase }, { on := 2, ground := Ground.phase }, { on := 3, ground := Ground.phase }, { on := 4, ground := Ground.phase }, { on := 5, ground := Ground.phase }, { on := 6, ground := Ground.phase }, { on := 7, ground := Ground.phase }, { on := 8, ground := Ground.phase }, { on := 9, ground := Ground.phase }], guard := none }) rfl (by kernel_rfl) (fun K hK => ?_)
                  go_simp
                  refine hK.out _ _ (fun _ => HZ3.out) ?_
                  clear hK K k1 k2 k3
                  (try simp only [Act.put, List.setIfInBounds_toArray, List.set_cons_zero, List.set_cons_succ])
                  refine wpAnyT_done (by kernel_rfl) ?_
                  go_wp2
                  go_roundg (nA - (q + 1))
                  case measure => omega
                  case rel => exact ⟨q + 1, _, by omega, rfl, by go_num, HBN.out, HTN.out, HAN.out⟩
                · have hc1 := HTG.out _ HBA.out (z1 / 2).toNat true u1 (hsg.1 (by omega))
                  clear hsg hbt x1 u1 v1
                  go_upto_region 22 with (fail)
                  refine wp_region_T (by kernel_rfl) (fun w' => w'.cell? ⟨wr.heap.size, 1, none⟩ = some (.int .i64 z1) ∧ w'.cell? ⟨wr.heap.size, 2, none⟩ = some (.int .i64 z2)) 12 ?_
                  have hHeld := HZ1.out
                  refine wpAnyT_take (i := 0) (oi := { dst := some 103, op := Op.move (Operand.tmp 7), type := 60, pos := "theorems.go:90", after := #[], guard := none }) (v := ?v0r22q3) rfl (by kernel_rfl) (fun _ _ _ h => h) (by rfl) hHeld ?h0r22q3 ?_
                  case h0r22q3 => (intro w' hSw; (try dsimp only at hSw); go_simp; try with_reducible rfl)
                  (try simp only [Act.put, List.setIfInBounds_toArray, List.set_cons_zero, List.set_cons_succ])
                  refine wpAnyT_take (i := 1) (oi := { dst := some 104, op := Op.fieldAddr 43 (Operand.tmp 11) 1, type := 0, pos := "theorems.go:90", after := #[], guard := none }) (v := ?v1r22q3) rfl (by kernel_rfl) (fun _ _ _ h => h) (by rfl) hHeld ?h1r22q3 ?_
                  case h1r22q3 => (intro w' hSw; (try dsimp only at hSw); go_simp; try with_reducible rfl)
                  (try simp only [Act.put, List.setIfInBounds_toArray, List.set_cons_zero, List.set_cons_succ])
                  refine wpAnyT_take (i := 2) (oi := { dst := some 105, op := Op.load 3 (Operand.tmp 104), type := 3, pos := "theorems.go:90", after := #[{ on := 1, ground := Ground.data }], guard := none }) (v := ?v2r22q3) rfl (by kernel_rfl) (fun _ _ _ h => h) (by rfl) hHeld ?h2r22q3 ?_
                  case h2r22q3 => (intro w' hSw; (try dsimp only at hSw); go_simp; try with_reducible rfl)
                  (try simp only [Act.put, List.setIfInBounds_toArray, List.set_cons_zero, List.set_cons_succ])
                  refine wpAnyT_take (i := 3) (oi := { dst := some 106, op := Op.binOp BinOp.quo 3 (Operand.tmp 105) (Operand.const (Value.int IntKind.i64 2)) 3, type := 3, pos := "theorems.go:90", after := #[{ on := 2, ground := Ground.data }], guard := none }) (v := ?v3r22q3) rfl (by kernel_rfl) (fun _ _ _ h => h) (by rfl) hHeld ?h3r22q3 ?_
                  case h3r22q3 => (intro w' hSw; (try dsimp only at hSw); go_simp; try with_reducible rfl)
                  (try simp only [Act.put, List.setIfInBounds_toArray, List.set_cons_zero, List.set_cons_succ])
                  refine wpAnyT_take (i := 4) (oi := { dst := some 107, op := Op.move (Operand.tmp 7), type := 60, pos := "theorems.go:90", after := #[{ on := 9, ground := Ground.gcOnly Departure.lateStores }], guard := none }) (v := ?v4r22q3) rfl (by kernel_rfl) (fun _ _ _ h => h) (by rfl) hHeld ?h4r22q3 ?_
                  case h4r22q3 => (intro w' hSw; (try dsimp only at hSw); go_simp; try with_reducible rfl)
                  (try simp only [Act.put, List.setIfInBounds_toArray, List.set_cons_zero, List.set_cons_succ])
                  refine wpAnyT_take (i := 5) (oi := { dst := some 108, op := Op.fieldAddr 43 (Operand.tmp 11) 2, type := 0, pos := "theorems.go:90", after := #[{ on := 9, ground := Ground.gcOnly Departure.lateStores }], guard := none }) (v := ?v5r22q3) rfl (by kernel_rfl) (fun _ _ _ h => h) (by rfl) hHeld ?h5r22q3 ?_
                  case h5r22q3 => (intro w' hSw; (try dsimp only at hSw); go_simp; try with_reducible rfl)
                  (try simp only [Act.put, List.setIfInBounds_toArray, List.set_cons_zero, List.set_cons_succ])
                  refine wpAnyT_take (i := 6) (oi := { dst := some 109, op := Op.load 3 (Operand.tmp 108), type := 3, pos := "theorems.go:90", after := #[{ on := 5, ground := Ground.data }, { on := 9, ground := Ground.gcOnly Departure.lateStores }], guard := none }) (v := ?v6r22q3) rfl (by kernel_rfl) (fun _ _ _ h => h) (by rfl) hHeld ?h6r22q3 ?_
                  case h6r22q3 => (intro w' hSw; (try dsimp only at hSw); go_simp; try with_reducible rfl)
                  (try simp only [Act.put, List.setIfInBounds_toArray, List.set_cons_zero, List.set_cons_succ])
                  refine wpAnyT_take (i := 7) (oi := { dst := some 110, op := Op.binOp BinOp.quo 3 (Operand.tmp 109) (Operand.const (Value.int IntKind.i64 2)) 3, type := 3, pos := "theorems.go:90", after := #[{ on := 6, ground := Ground.data }, { on := 9, ground := Ground.gcOnly Departure.lateStores }], guard := none }) (v := ?v7r22q3) rfl (by kernel_rfl) (fun _ _ _ h => h) (by rfl) hHeld ?h7r22q3 ?_
                  case h7r22q3 => (intro w' hSw; (try dsimp only at hSw); go_simp; try with_reducible rfl)
                  (try simp only [Act.put, List.setIfInBounds_toArray, List.set_cons_zero, List.set_cons_succ])
                  refine wpAnyT_take (i := 8) (oi := { dst := some 111, op := Op.indexAddr 60 (Operand.tmp 103) (Operand.tmp 106), type := 0, pos := "theorems.go:90", after := #[{ on := 0, ground := Ground.data }, { on := 3, ground := Ground.data }, { on := 0, ground := Ground.phase }, { on := 1, ground := Ground.phase }, { on := 2, ground := Ground.phase }, { on := 3, ground := Ground.phase }, { on := 4, ground := Ground.textOnly Departure.lateStores }, { on := 5, ground := Ground.textOnly Departure.lateStores }, { on := 6, ground := Ground.textOnly Departure.lateStores }, { on := 7, ground := Ground.textOnly Departure.lateStores }], guard := none }) (v := ?v8r22q3) rfl (by kernel_rfl) (fun _ _ _ h => h) (by rfl) hHeld ?h8r22q3 ?_
                  case h8r22q3 => (intro w' hSw; (try dsimp only at hSw); go_simp; try with_reducible rfl)
                  (try simp only [Act.put, List.setIfInBounds_toArray, List.set_cons_zero, List.set_cons_succ])
                  clear hHeld
                  obtain ⟨k1, k2, k3⟩ := HCA1.out
                  refine wpAnyT_one (i := 9) (o := { dst := none, op := Op.store 4 (Operand.tmp 111) (Operand.const (Value.bool true)), type := 0, pos := "theorems.go:90", after := #[{ on := 8, ground := Ground.data }, { on := 0, ground := Ground.phase }, { on := 1, ground := Ground.phase }, { on := 2, ground := Ground.phase }, { on := 3, ground := Ground.phase }, { on := 4, ground := Ground.textOnly Departure.lateStores }, { on := 5, ground := Ground.textOnly Departure.lateStores }, { on := 6, ground := Ground.textOnly Departure.lateStores }, { on := 7, ground := Ground.textOnly Departure.lateStores }], guard := none }) rfl (by kernel_rfl) (fun K hK => ?_)
                  go_simp
                  refine hK.out _ _ (fun _ => HZ2.out) ?_
                  clear hK K k1 k2 k3
                  (try simp only [Act.put, List.setIfInBounds_toArray, List.set_cons_zero, List.set_cons_succ])
                  have hHeld := HZ2.out
                  refine wpAnyT_take (i := 10) (oi := { dst := some 112, op := Op.indexAddr 60 (Operand.tmp 107) (Operand.tmp 110), type := 0, pos := "theorems.go:90", after := #[{ on := 4, ground := Ground.data }, { on := 7, ground := Ground.data }, { on := 0, ground := Ground.phase }, { on := 1, ground := Ground.phase }, { on := 2, ground := Ground.phase }, { on := 3, ground := Ground.phase }, { on := 4, ground := Ground.phase }, { on := 5, ground := Ground.phase }, { on := 6, ground := Ground.phase }, { on := 7, ground := Ground.phase }, { on := 8, ground := Ground.phase }, { on := 9, ground := Ground.phase }], guard := none }) (v := ?v10r22q4) rfl (by kernel_rfl) (fun _ _ _ h => h) (by rfl) hHeld ?h10r22q4 ?_
                  case h10r22q4 => (intro w' hSw; (try dsimp only at hSw); go_simp; try with_reducible rfl)
                  (try simp only [Act.put, List.setIfInBounds_toArray, List.set_cons_zero, List.set_cons_succ])
                  clear hHeld
                  obtain ⟨k1, k2, k3⟩ := HCA2.out
                  refine wpAnyT_one (i := 11) (o := { dst := none, op := Op.store 4 (Operand.tmp 112) (Operand.const (Value.bool true)), type := 0, pos := "theorems.go:90", after := #[{ on := 10, ground := Ground.data }, { on := 9, ground := Ground.chain }, { on := 0, ground := Ground.phase }, { on := 1, ground := Ground.phase }, { on := 2, ground := Ground.phase }, { on := 3, ground := Ground.phase }, { on := 4, ground := Ground.phase }, { on := 5, ground := Ground.phase }, { on := 6, ground := Ground.phase }, { on := 7, ground := Ground.phase }, { on := 8, ground := Ground.phase }, { on := 9, ground := Ground.phase }], guard := none }) rfl (by kernel_rfl) (fun K hK => ?_)
                  go_simp
                  refine hK.out _ _ (fun _ => HZ3.out) ?_
                  clear hK K k1 k2 k3
                  (try simp only [Act.put, List.setIfInBounds_toArray, List.set_cons_zero, List.set_cons_succ])
                  refine wpAnyT_done (by kernel_rfl) ?_
                  go_wp2
                  go_roundg (nA - (q + 1))
                  case measure => omega
                  case rel => exact ⟨q + 1, _, by omega, rfl, by go_num, HBN.out, HTN.out, HAN.out⟩
              · by_cases c2 : 1 < z2
                · have hc2 := HTG.out _ HBA.out (z2 / 2).toNat true v1 (hsg.2 (by omega))
                  clear hsg hbt x1 u1 v1
                  go_upto_region 22 with (fail)
                  refine wp_region_T (by kernel_rfl) (fun w' => w'.cell? ⟨wr.heap.size, 1, none⟩ = some (.int .i64 z1) ∧ w'.cell? ⟨wr.heap.size, 2, none⟩ = some (.int .i64 z2)) 12 ?_
                  have hHeld := HZ1.out
                  refine wpAnyT_take (i := 0) (oi := { dst := some 103, op := Op.move (Operand.tmp 7), type := 60, pos := "theorems.go:90", after := #[], guard := none }) (v := ?v0r22q5) rfl (by kernel_rfl) (fun _ _ _ h => h) (by rfl) hHeld ?h0r22q5 ?_
                  case h0r22q5 => (intro w' hSw; (try dsimp only at hSw); go_simp; try with_reducible rfl)
                  (try simp only [Act.put, List.setIfInBounds_toArray, List.set_cons_zero, List.set_cons_succ])
                  refine wpAnyT_take (i := 1) (oi := { dst := some 104, op := Op.fieldAddr 43 (Operand.tmp 11) 1, type := 0, pos := "theorems.go:90", after := #[], guard := none }) (v := ?v1r22q5) rfl (by kernel_rfl) (fun _ _ _ h => h) (by rfl) hHeld ?h1r22q5 ?_
                  case h1r22q5 => (intro w' hSw; (try dsimp only at hSw); go_simp; try with_reducible rfl)
                  (try simp only [Act.put, List.setIfInBounds_toArray, List.set_cons_zero, List.set_cons_succ])
                  refine wpAnyT_take (i := 2) (oi := { dst := some 105, op := Op.load 3 (Operand.tmp 104), type := 3, pos := "theorems.go:90", after := #[{ on := 1, ground := Ground.data }], guard := none }) (v := ?v2r22q5) rfl (by kernel_rfl) (fun _ _ _ h => h) (by rfl) hHeld ?h2r22q5 ?_
                  case h2r22q5 => (intro w' hSw; (try dsimp only at hSw); go_simp; try with_reducible rfl)
                  (try simp only [Act.put, List.setIfInBounds_toArray, List.set_cons_zero, List.set_cons_succ])
                  refine wpAnyT_take (i := 3) (oi := { dst := some 106, op := Op.binOp BinOp.quo 3 (Operand.tmp 105) (Operand.const (Value.int IntKind.i64 2)) 3, type := 3, pos := "theorems.go:90", after := #[{ on := 2, ground := Ground.data }], guard := none }) (v := ?v3r22q5) rfl (by kernel_rfl) (fun _ _ _ h => h) (by rfl) hHeld ?h3r22q5 ?_
                  case h3r22q5 => (intro w' hSw; (try dsimp only at hSw); go_simp; try with_reducible rfl)
                  (try simp only [Act.put, List.setIfInBounds_toArray, List.set_cons_zero, List.set_cons_succ])
                  refine wpAnyT_take (i := 4) (oi := { dst := some 107, op := Op.move (Operand.tmp 7), type := 60, pos := "theorems.go:90", after := #[{ on := 9, ground := Ground.gcOnly Departure.lateStores }], guard := none }) (v := ?v4r22q5) rfl (by kernel_rfl) (fun _ _ _ h => h) (by rfl) hHeld ?h4r22q5 ?_
                  case h4r22q5 => (intro w' hSw; (try dsimp only at hSw); go_simp; try with_reducible rfl)
                  (try simp only [Act.put, List.setIfInBounds_toArray, List.set_cons_zero, List.set_cons_succ])
                  refine wpAnyT_take (i := 5) (oi := { dst := some 108, op := Op.fieldAddr 43 (Operand.tmp 11) 2, type := 0, pos := "theorems.go:90", after := #[{ on := 9, ground := Ground.gcOnly Departure.lateStores }], guard := none }) (v := ?v5r22q5) rfl (by kernel_rfl) (fun _ _ _ h => h) (by rfl) hHeld ?h5r22q5 ?_
                  case h5r22q5 => (intro w' hSw; (try dsimp only at hSw); go_simp; try with_reducible rfl)
                  (try simp only [Act.put, List.setIfInBounds_toArray, List.set_cons_zero, List.set_cons_succ])
                  refine wpAnyT_take (i := 6) (oi := { dst := some 109, op := Op.load 3 (Operand.tmp 108), type := 3, pos := "theorems.go:90", after := #[{ on := 5, ground := Ground.data }, { on := 9, ground := Ground.gcOnly Departure.lateStores }], guard := none }) (v := ?v6r22q5) rfl (by kernel_rfl) (fun _ _ _ h => h) (by rfl) hHeld ?h6r22q5 ?_
                  case h6r22q5 => (intro w' hSw; (try dsimp only at hSw); go_simp; try with_reducible rfl)
                  (try simp only [Act.put, List.setIfInBounds_toArray, List.set_cons_zero, List.set_cons_succ])
                  refine wpAnyT_take (i := 7) (oi := { dst := some 110, op := Op.binOp BinOp.quo 3 (Operand.tmp 109) (Operand.const (Value.int IntKind.i64 2)) 3, type := 3, pos := "theorems.go:90", after := #[{ on := 6, ground := Ground.data }, { on := 9, ground := Ground.gcOnly Departure.lateStores }], guard := none }) (v := ?v7r22q5) rfl (by kernel_rfl) (fun _ _ _ h => h) (by rfl) hHeld ?h7r22q5 ?_
                  case h7r22q5 => (intro w' hSw; (try dsimp only at hSw); go_simp; try with_reducible rfl)
                  (try simp only [Act.put, List.setIfInBounds_toArray, List.set_cons_zero, List.set_cons_succ])
                  refine wpAnyT_take (i := 8) (oi := { dst := some 111, op := Op.indexAddr 60 (Operand.tmp 103) (Operand.tmp 106), type := 0, pos := "theorems.go:90", after := #[{ on := 0, ground := Ground.data }, { on := 3, ground := Ground.data }, { on := 0, ground := Ground.phase }, { on := 1, ground := Ground.phase }, { on := 2, ground := Ground.phase }, { on := 3, ground := Ground.phase }, { on := 4, ground := Ground.textOnly Departure.lateStores }, { on := 5, ground := Ground.textOnly Departure.lateStores }, { on := 6, ground := Ground.textOnly Departure.lateStores }, { on := 7, ground := Ground.textOnly Departure.lateStores }], guard := none }) (v := ?v8r22q5) rfl (by kernel_rfl) (fun _ _ _ h => h) (by rfl) hHeld ?h8r22q5 ?_
                  case h8r22q5 => (intro w' hSw; (try dsimp only at hSw); go_simp; try with_reducible rfl)
                  (try simp only [Act.put, List.setIfInBounds_toArray, List.set_cons_zero, List.set_cons_succ])
                  clear hHeld
                  obtain ⟨k1, k2, k3⟩ := HCA1.out
                  refine wpAnyT_one (i := 9) (o := { dst := none, op := Op.store 4 (Operand.tmp 111) (Operand.const (Value.bool true)), type := 0, pos := "theorems.go:90", after := #[{ on := 8, ground := Ground.data }, { on := 0, ground := Ground.phase }, { on := 1, ground := Ground.phase }, { on := 2, ground := Ground.phase }, { on := 3, ground := Ground.phase }, { on := 4, ground := Ground.textOnly Departure.lateStores }, { on := 5, ground := Ground.textOnly Departure.lateStores }, { on := 6, ground := Ground.textOnly Departure.lateStores }, { on := 7, ground := Ground.textOnly Departure.lateStores }], guard := none }) rfl (by kernel_rfl) (fun K hK => ?_)
                  go_simp
                  refine hK.out _ _ (fun _ => HZ2.out) ?_
                  clear hK K k1 k2 k3
                  (try simp only [Act.put, List.setIfInBounds_toArray, List.set_cons_zero, List.set_cons_succ])
                  have hHeld := HZ2.out
                  refine wpAnyT_take (i := 10) (oi := { dst := some 112, op := Op.indexAddr 60 (Operand.tmp 107) (Operand.tmp 110), type := 0, pos := "theorems.go:90", after := #[{ on := 4, ground := Ground.data }, { on := 7, ground := Ground.data }, { on := 0, ground := Ground.phase }, { on := 1, ground := Ground.phase }, { on := 2, ground := Ground.phase }, { on := 3, ground := Ground.phase }, { on := 4, ground := Ground.phase }, { on := 5, ground := Ground.phase }, { on := 6, ground := Ground.phase }, { on := 7, ground := Ground.phase }, { on := 8, ground := Ground.phase }, { on := 9, ground := Ground.phase }], guard := none }) (v := ?v10r22q6) rfl (by kernel_rfl) (fun _ _ _ h => h) (by rfl) hHeld ?h10r22q6 ?_
                  case h10r22q6 => (intro w' hSw; (try dsimp only at hSw); go_simp; try with_reducible rfl)
                  (try simp only [Act.put, List.setIfInBounds_toArray, List.set_cons_zero, List.set_cons_succ])
                  clear hHeld
                  obtain ⟨k1, k2, k3⟩ := HCA2.out
                  refine wpAnyT_one (i := 11) (o := { dst := none, op := Op.store 4 (Operand.tmp 112) (Operand.const (Value.bool true)), type := 0, pos := "theorems.go:90", after := #[{ on := 10, ground := Ground.data }, { on := 9, ground := Ground.chain }, { on := 0, ground := Ground.phase }, { on := 1, ground := Ground.phase }, { on := 2, ground := Ground.phase }, { on := 3, ground := Ground.phase }, { on := 4, ground := Ground.phase }, { on := 5, ground := Ground.phase }, { on := 6, ground := Ground.phase }, { on := 7, ground := Ground.phase }, { on := 8, ground := Ground.phase }, { on := 9, ground := Ground.phase }], guard := none }) rfl (by kernel_rfl) (fun K hK => ?_)
                  go_simp
                  refine hK.out _ _ (fun _ => HZ3.out) ?_
                  clear hK K k1 k2 k3
                  (try simp only [Act.put, List.setIfInBounds_toArray, List.set_cons_zero, List.set_cons_succ])
                  refine wpAnyT_done (by kernel_rfl) ?_
                  go_wp2
                  go_roundg (nA - (q + 1))
                  case measure => omega
                  case rel => exact ⟨q + 1, _, by omega, rfl, by go_num, HBN.out, HTN.out, HAN.out⟩
                · clear hsg hbt x1 u1 v1
                  go_upto_region 22 with (fail)
                  refine wp_region_T (by kernel_rfl) (fun w' => w'.cell? ⟨wr.heap.size, 1, none⟩ = some (.int .i64 z1) ∧ w'.cell? ⟨wr.heap.size, 2, none⟩ = some (.int .i64 z2)) 12 ?_
                  have hHeld := HZ1.out
                  refine wpAnyT_take (i := 0) (oi := { dst := some 103, op := Op.move (Operand.tmp 7), type := 60, pos := "theorems.go:90", after := #[], guard := none }) (v := ?v0r22q7) rfl (by kernel_rfl) (fun _ _ _ h => h) (by rfl) hHeld ?h0r22q7 ?_
                  case h0r22q7 => (intro w' hSw; (try dsimp only at hSw); go_simp; try with_reducible rfl)
                  (try simp only [Act.put, List.setIfInBounds_toArray, List.set_cons_zero, List.set_cons_succ])
                  refine wpAnyT_take (i := 1) (oi := { dst := some 104, op := Op.fieldAddr 43 (Operand.tmp 11) 1, type := 0, pos := "theorems.go:90", after := #[], guard := none }) (v := ?v1r22q7) rfl (by kernel_rfl) (fun _ _ _ h => h) (by rfl) hHeld ?h1r22q7 ?_
                  case h1r22q7 => (intro w' hSw; (try dsimp only at hSw); go_simp; try with_reducible rfl)
                  (try simp only [Act.put, List.setIfInBounds_toArray, List.set_cons_zero, List.set_cons_succ])
                  refine wpAnyT_take (i := 2) (oi := { dst := some 105, op := Op.load 3 (Operand.tmp 104), type := 3, pos := "theorems.go:90", after := #[{ on := 1, ground := Ground.data }], guard := none }) (v := ?v2r22q7) rfl (by kernel_rfl) (fun _ _ _ h => h) (by rfl) hHeld ?h2r22q7 ?_
                  case h2r22q7 => (intro w' hSw; (try dsimp only at hSw); go_simp; try with_reducible rfl)
                  (try simp only [Act.put, List.setIfInBounds_toArray, List.set_cons_zero, List.set_cons_succ])
                  refine wpAnyT_take (i := 3) (oi := { dst := some 106, op := Op.binOp BinOp.quo 3 (Operand.tmp 105) (Operand.const (Value.int IntKind.i64 2)) 3, type := 3, pos := "theorems.go:90", after := #[{ on := 2, ground := Ground.data }], guard := none }) (v := ?v3r22q7) rfl (by kernel_rfl) (fun _ _ _ h => h) (by rfl) hHeld ?h3r22q7 ?_
                  case h3r22q7 => (intro w' hSw; (try dsimp only at hSw); go_simp; try with_reducible rfl)
                  (try simp only [Act.put, List.setIfInBounds_toArray, List.set_cons_zero, List.set_cons_succ])
                  refine wpAnyT_take (i := 4) (oi := { dst := some 107, op := Op.move (Operand.tmp 7), type := 60, pos := "theorems.go:90", after := #[{ on := 9, ground := Ground.gcOnly Departure.lateStores }], guard := none }) (v := ?v4r22q7) rfl (by kernel_rfl) (fun _ _ _ h => h) (by rfl) hHeld ?h4r22q7 ?_
                  case h4r22q7 => (intro w' hSw; (try dsimp only at hSw); go_simp; try with_reducible rfl)
                  (try simp only [Act.put, List.setIfInBounds_toArray, List.set_cons_zero, List.set_cons_succ])
                  refine wpAnyT_take (i := 5) (oi := { dst := some 108, op := Op.fieldAddr 43 (Operand.tmp 11) 2, type := 0, pos := "theorems.go:90", after := #[{ on := 9, ground := Ground.gcOnly Departure.lateStores }], guard := none }) (v := ?v5r22q7) rfl (by kernel_rfl) (fun _ _ _ h => h) (by rfl) hHeld ?h5r22q7 ?_
                  case h5r22q7 => (intro w' hSw; (try dsimp only at hSw); go_simp; try with_reducible rfl)
                  (try simp only [Act.put, List.setIfInBounds_toArray, List.set_cons_zero, List.set_cons_succ])
                  refine wpAnyT_take (i := 6) (oi := { dst := some 109, op := Op.load 3 (Operand.tmp 108), type := 3, pos := "theorems.go:90", after := #[{ on := 5, ground := Ground.data }, { on := 9, ground := Ground.gcOnly Departure.lateStores }], guard := none }) (v := ?v6r22q7) rfl (by kernel_rfl) (fun _ _ _ h => h) (by rfl) hHeld ?h6r22q7 ?_
                  case h6r22q7 => (intro w' hSw; (try dsimp only at hSw); go_simp; try with_reducible rfl)
                  (try simp only [Act.put, List.setIfInBounds_toArray, List.set_cons_zero, List.set_cons_succ])
                  refine wpAnyT_take (i := 7) (oi := { dst := some 110, op := Op.binOp BinOp.quo 3 (Operand.tmp 109) (Operand.const (Value.int IntKind.i64 2)) 3, type := 3, pos := "theorems.go:90", after := #[{ on := 6, ground := Ground.data }, { on := 9, ground := Ground.gcOnly Departure.lateStores }], guard := none }) (v := ?v7r22q7) rfl (by kernel_rfl) (fun _ _ _ h => h) (by rfl) hHeld ?h7r22q7 ?_
                  case h7r22q7 => (intro w' hSw; (try dsimp only at hSw); go_simp; try with_reducible rfl)
                  (try simp only [Act.put, List.setIfInBounds_toArray, List.set_cons_zero, List.set_cons_succ])
                  refine wpAnyT_take (i := 8) (oi := { dst := some 111, op := Op.indexAddr 60 (Operand.tmp 103) (Operand.tmp 106), type := 0, pos := "theorems.go:90", after := #[{ on := 0, ground := Ground.data }, { on := 3, ground := Ground.data }, { on := 0, ground := Ground.phase }, { on := 1, ground := Ground.phase }, { on := 2, ground := Ground.phase }, { on := 3, ground := Ground.phase }, { on := 4, ground := Ground.textOnly Departure.lateStores }, { on := 5, ground := Ground.textOnly Departure.lateStores }, { on := 6, ground := Ground.textOnly Departure.lateStores }, { on := 7, ground := Ground.textOnly Departure.lateStores }], guard := none }) (v := ?v8r22q7) rfl (by kernel_rfl) (fun _ _ _ h => h) (by rfl) hHeld ?h8r22q7 ?_
                  case h8r22q7 => (intro w' hSw; (try dsimp only at hSw); go_simp; try with_reducible rfl)
                  (try simp only [Act.put, List.setIfInBounds_toArray, List.set_cons_zero, List.set_cons_succ])
                  clear hHeld
                  obtain ⟨k1, k2, k3⟩ := HCA1.out
                  refine wpAnyT_one (i := 9) (o := { dst := none, op := Op.store 4 (Operand.tmp 111) (Operand.const (Value.bool true)), type := 0, pos := "theorems.go:90", after := #[{ on := 8, ground := Ground.data }, { on := 0, ground := Ground.phase }, { on := 1, ground := Ground.phase }, { on := 2, ground := Ground.phase }, { on := 3, ground := Ground.phase }, { on := 4, ground := Ground.textOnly Departure.lateStores }, { on := 5, ground := Ground.textOnly Departure.lateStores }, { on := 6, ground := Ground.textOnly Departure.lateStores }, { on := 7, ground := Ground.textOnly Departure.lateStores }], guard := none }) rfl (by kernel_rfl) (fun K hK => ?_)
                  go_simp
                  refine hK.out _ _ (fun _ => HZ2.out) ?_
                  clear hK K k1 k2 k3
                  (try simp only [Act.put, List.setIfInBounds_toArray, List.set_cons_zero, List.set_cons_succ])
                  have hHeld := HZ2.out
                  refine wpAnyT_take (i := 10) (oi := { dst := some 112, op := Op.indexAddr 60 (Operand.tmp 107) (Operand.tmp 110), type := 0, pos := "theorems.go:90", after := #[{ on := 4, ground := Ground.data }, { on := 7, ground := Ground.data }, { on := 0, ground := Ground.phase }, { on := 1, ground := Ground.phase }, { on := 2, ground := Ground.phase }, { on := 3, ground := Ground.phase }, { on := 4, ground := Ground.phase }, { on := 5, ground := Ground.phase }, { on := 6, ground := Ground.phase }, { on := 7, ground := Ground.phase }, { on := 8, ground := Ground.phase }, { on := 9, ground := Ground.phase }], guard := none }) (v := ?v10r22q8) rfl (by kernel_rfl) (fun _ _ _ h => h) (by rfl) hHeld ?h10r22q8 ?_
                  case h10r22q8 => (intro w' hSw; (try dsimp only at hSw); go_simp; try with_reducible rfl)
                  (try simp only [Act.put, List.setIfInBounds_toArray, List.set_cons_zero, List.set_cons_succ])
                  clear hHeld
                  obtain ⟨k1, k2, k3⟩ := HCA2.out
                  refine wpAnyT_one (i := 11) (o := { dst := none, op := Op.store 4 (Operand.tmp 112) (Operand.const (Value.bool true)), type := 0, pos := "theorems.go:90", after := #[{ on := 10, ground := Ground.data }, { on := 9, ground := Ground.chain }, { on := 0, ground := Ground.phase }, { on := 1, ground := Ground.phase }, { on := 2, ground := Ground.phase }, { on := 3, ground := Ground.phase }, { on := 4, ground := Ground.phase }, { on := 5, ground := Ground.phase }, { on := 6, ground := Ground.phase }, { on := 7, ground := Ground.phase }, { on := 8, ground := Ground.phase }, { on := 9, ground := Ground.phase }], guard := none }) rfl (by kernel_rfl) (fun K hK => ?_)
                  go_simp
                  refine hK.out _ _ (fun _ => HZ3.out) ?_
                  clear hK K k1 k2 k3
                  (try simp only [Act.put, List.setIfInBounds_toArray, List.set_cons_zero, List.set_cons_succ])
                  refine wpAnyT_done (by kernel_rfl) ?_
                  go_wp2
                  go_roundg (nA - (q + 1))
                  case measure => omega
                  case rel => exact ⟨q + 1, _, by omega, rfl, by go_num, HBN.out, HTN.out, HAN.out⟩
          · have hqe : nA = q := by omega
            subst hqe
            obtain ⟨y0, y2, y8, hbe⟩ := HCX.out wr HB.out
            have HBE := Lib.hid hbe
            clear hbe
            go_wp2
            go_loopg [117] nL (fun j iv wx => ∃ (q : Nat) (A : List Bool), q ≤ nL ∧ j = nL - q ∧ iv = .int .i64 q ∧ Below ga w3 wx ∧ Tab wx ga A ∧ Asked C L T A nl nA q)
            case atStart => exact ⟨0, _, Nat.zero_le _, rfl, rfl, HB.out, HTA.out, HASK.out⟩
            case round =>
              clear HB HTA HASK
              obtain ⟨q, A, hq, hgk, rfl, hbl, hta, hask⟩ := hrel
              subst hgk
              have HB := Lib.hid hbl
              have HTA := Lib.hid hta
              have HASK := Lib.hid hask
              clear hbl hta hask
              by_cases hlt : q < nL
              · obtain ⟨⟨z0, z1, z2⟩, hz⟩ : ∃ z, C.latches[q]? = some z := ⟨_, List.getElem?_eq_getElem (by rw [HNL.out]; exact hlt)⟩
                obtain ⟨b, off, e, hb, hcell⟩ := HL.out q (z0, z1, z2) hz
                subst e
                have h0 := ((HCX.out wr HB.out).2.2.2.cell (p := ⟨b, off + (q * 3 + 0), none⟩) hb).trans (hcell 0 _ rfl)
                have h1 := ((HCX.out wr HB.out).2.2.2.cell (p := ⟨b, off + (q * 3 + 1), none⟩) hb).trans (hcell 1 _ rfl)
                have h2 := ((HCX.out wr HB.out).2.2.2.cell (p := ⟨b, off + (q * 3 + 2), none⟩) hb).trans (hcell 2 _ rfl)
                simp only [Nat.add_zero, ← Nat.add_assoc] at h0 h1 h2
                obtain ⟨⟨x0, x1, x2⟩, u0, u1, u2⟩ := HIT.out (z0, z1, z2) (List.mem_of_getElem? hz)
                simp only at x0 x1 x2 u0 u1 u2
                have HZM : Hid ((z0, z1, z2) ∈ C.latches) := Lib.hid (List.mem_of_getElem? hz)
                have HZ := Lib.hid hz
                have hBA : Below ga w3 (wr.alloc (.cells #[.int .i64 z0, .int .i64 z1, .int .i64 z2] 114)) := HB.out.alloc (by have := Blk.lt HTA.out; omega) _
                have HBA := Lib.hid hBA
                have hTA1 : Tab (wr.alloc (.cells #[.int .i64 z0, .int .i64 z1, .int .i64 z2] 114)) ga A := Blk.alloc HTA.out _
                have HTA1 := Lib.hid hTA1
                have hqt := tdiv_nn (b := 2) x0
                have hq0 : 0 ≤ z0 / 2 := by omega
                have hq1 : z0 / 2 < (m : Int) + 1 := by omega
                have hq3 : IntKind.i64.wrap (z0 / 2) = z0 / 2 := i64_small (by omega) (by omega)
                have hk0 : (0 : Int) ≤ (q : Int) := by omega
                have hk1 : (q : Int) < (nL : Int) := by omega
                obtain ⟨bt0, hbt⟩ : ∃ b, T.getD (vOf z0) false = b := ⟨_, rfl⟩
                have hct := HTG.out _ HBA.out (z0 / 2).toNat bt0 x1 hbt
                clear hcell hz hBA hTA1
                cases bt0 with
                | false =>
                  have HAN := Lib.hid (HASK.out.latch0 HZ.out hbt)
                  clear hbt
                  go_wp2
                  go_roundg (nL - (q + 1))
                  case measure => omega
                  case rel => exact ⟨q + 1, A, by omega, rfl, by go_num, HBA.out, HTA1.out, HAN.out⟩
                | true =>
                  have hsg := HST.out _ HZM.out hbt
                  simp only at hsg
                  have hut := tdiv_nn (b := 2) u0
                  have hu0 : 0 ≤ z1 / 2 := by omega
                  have hu1 : z1 / 2 < (m : Int) + 1 := by omega
                  have hu3 : IntKind.i64.wrap (z1 / 2) = z1 / 2 := i64_small (by omega) (by omega)
                  have hAl : A.length = m + 1 := by rw [HASK.out.len, HMM.out]
                  obtain ⟨y1, hy1⟩ : ∃ y, A[(z1 / 2).toNat]? = some y := ⟨_, List.getElem?_eq_getElem (by rw [hAl]; exact u1)⟩
                  have hca := HTA1.out.cell hy1
                  have hfa := Blk.frozen HTA1.out (z1 / 2).toNat
                  have hla := Blk.lt HTA1.out
                  have HTN := Lib.hid (HTA1.out.set_ (z1 / 2).toNat true)
                  have HBN : Hid (Below ga w3 ((wr.alloc (.cells #[.int .i64 z0, .int .i64 z1, .int .i64 z2] 114)).setCell ⟨ga, (z1 / 2).toNat, none⟩ (.bool true))) := Lib.hid (HBA.out.setCell (Nat.le_refl _) _)
                  have HAN : Hid (Asked C L T (A.set (z1 / 2).toNat true) nl nA (q + 1)) := Lib.hid (HASK.out.latch HZ.out (by rw [HMM.out]; exact u1))
                  clear hy1 hAl
                  by_cases c1 : 1 < z1
                  · have hc1 := HTG.out _ HBA.out (z1 / 2).toNat true u1 (hsg (by omega))
                    clear hsg hbt x1 u1
                    go_wp2
                    go_roundg (nL - (q + 1))
                    case measure => omega
                    case rel => exact ⟨q + 1, _, by omega, rfl, by go_num, HBN.out, HTN.out, HAN.out⟩
                  · clear hsg hbt x1 u1
                    go_wp2
                    go_roundg (nL - (q + 1))
                    case measure => omega
                    case rel => exact ⟨q + 1, _, by omega, rfl, by go_num, HBN.out, HTN.out, HAN.out⟩
              · have hqe : nL = q := by omega
                subst hqe
                obtain ⟨y0, y2, y8, hbe⟩ := HCX.out wr HB.out
                have HBE := Lib.hid hbe
                clear hbe
                go_wp2
                go_loopg [14] m (fun j iv wx => ∃ q : Nat, 1 ≤ q ∧ q ≤ m + 1 ∧ j = m + 1 - q ∧ iv = .int .i64 q ∧ wx = wr)
                case atStart => exact ⟨1, Nat.le_refl _, by omega, by omega, rfl, rfl⟩
                case round =>
                  obtain ⟨q, hq1, hq, hgk, rfl, hwx⟩ := hrel
                  subst hgk
                  rw [hwx]
                  by_cases hlt : q ≤ m
                  · have hk0 : (0 : Int) ≤ (q : Int) := by omega
                    have hk1 : (q : Int) < (m : Int) + 1 := by omega
                    have hk2 : (q : Int) ≤ (m : Int) := by omega
                    obtain ⟨b0, hb0⟩ : ∃ b, T.getD q false = b := ⟨_, rfl⟩
                    have hct := HTG.out _ HB.out q b0 (by omega) hb0
                    cases b0 with
                    | false =>
                      clear hb0
                      go_wp2
                      go_roundg (m + 1 - (q + 1))
                      case measure => omega
                      case rel => exact ⟨q + 1, by omega, by omega, rfl, by go_num, rfl⟩
                    | true =>
                      have ha1 := HEND.out A HASK.out q hb0
                      have hAl : A.length = m + 1 := by rw [HASK.out.len, HMM.out]
                      obtain ⟨y, hy⟩ : ∃ y, A[q]? = some y := ⟨_, List.getElem?_eq_getElem (by rw [hAl]; omega)⟩
                      rw [List.getD_eq_getElem?_getD, hy] at ha1
                      simp only [Option.getD_some] at ha1
                      subst ha1
                      have hca := HTA.out.cell hy
                      clear hb0 hy hAl
                      go_wp2
                      go_roundg (m + 1 - (q + 1))
                      case measure => omega
                      case rel => exact ⟨q + 1, by omega, by omega, rfl, by go_num, rfl⟩
                  · have hlt2 : ¬ (q : Int) ≤ (m : Int) := by omega
                    go_wp2
                    go_ret
                    exact ⟨rfl, HBE.out⟩
  · clear HWK
    have HWK := Lib.hid (fun wz => worksC_any wz)
    generalize litsE C L = e0 at *
    have hq : (e0 != 0) = true := by simpa using h0
    have H0 := Lib.hid h0
    clear h0
    go_enter Try.func12, Try.ntmps12
    go_upto_region 1 with (fail)
    rw [HW1.out]
    go_upto_region 3 with (go_at_call 45; refine (HWK.out _).mono ?_; rintro e w2 ⟨rfl, hb2⟩; have HB2 := Lib.hid hb2; clear hb2)
    have HC2 := Lib.hid (HAX.out w2 HB2.out)
    go_wp2_with (first
      | (refine wpList_load_row rfl 51 (.tmp 2) rfl w.heap.size rfl 51 #[.int .i64 C.max, Vi, .slice AL C.latches.length cL, Vo, Vb, Vc, Vj, Vf, .slice AA C.ands.length cA, Vs, Vt] (0, 0) _ HC2.out.1 Try.underlying51 rfl (by kernel_rfl) ?_)
      | (go_at_call 38; refine (HSU.out w2 HC2.out.2.1 HC2.out.2.2.1).mono ?_; rintro e w3 ⟨hb3, r, rfl, hno, _⟩; obtain rfl := hno H0.out; have HB3 := Lib.hid (bt HB2.out (Nat.le_refl _) hb3); clear hb3 hno))
    go_ret
    exact ⟨rfl, (HAX.out w3 HB3.out).2.2.2⟩
theorem coneCloses_row (w : World) (V : CV) (C : Circ) (v : Value) (L : List Int) (h : C.In w V) (ok : C.Ok) (_rm : C.Room ∧ C.Reach) (hv : RowE 1 encI w v L) (_hl : L.length * 8 ≤ 140737488351232) (_hw : ∀ z ∈ L, I64 z) :
    Calls Try.prog 12 #[V.val C.max, v] w fun e w' => e = .returned (.bool true) ∧ Below w.heap.size w w' := coneCloses_walk w V C v L h ok hv
end Go.Proofs.Ytahjmkdpnkffhaa

/- What Check's yes says of a circuit; the contract of Order. -/
import Derived.Test.YtdodhbfplglbkaaCheck3
import Derived.Test.YtdodhbfplglbkaaOrdW
namespace Go.Proofs.Ytdodhbfplglbkaa
open Go.RowKit

def LitOk (C : Circ) (l : Int) : Prop := 0 ≤ l ∧ l / 2 ≤ C.max
structure Right (C : Circ) : Prop where
  m0 : 0 ≤ C.max
  m1 : C.max ≤ 16384
  ni : C.inputs.length ≤ 16384
  nl : C.latches.length ≤ 16384
  no : C.outputs.length ≤ 16384
  nb : C.bads.length ≤ 16384
  nc : C.constraints.length ≤ 16384
  nj : C.justice.length ≤ 16384
  nf : C.fairness.length ≤ 16384
  na : C.ands.length ≤ 16384
  ns : C.symbols.length ≤ 16384
  nt : C.comments.length ≤ 16384
  i : ∀ l ∈ C.inputs, 2 ≤ l ∧ l / 2 ≤ C.max
  l : ∀ z ∈ C.latches, (2 ≤ z.1 ∧ z.1 / 2 ≤ C.max) ∧ LitOk C z.2.1 ∧ (z.2.2 = 0 ∨ z.2.2 = 1 ∨ z.2.2 = z.1)
  o : ∀ l ∈ C.outputs, LitOk C l
  b : ∀ l ∈ C.bads, LitOk C l
  c : ∀ l ∈ C.constraints, LitOk C l
  j : ∀ zs ∈ C.justice, ∀ l ∈ zs, LitOk C l
  f : ∀ l ∈ C.fairness, LitOk C l
  a : ∀ z ∈ C.ands, (2 ≤ z.1 ∧ z.1 / 2 ≤ C.max) ∧ LitOk C z.2.1 ∧ LitOk C z.2.2
  acy : firstF (usesC C) = -1
  uok : UsesOk (usesC C).length (usesC C)
theorem sizes_all {C : Circ} (h : sizesE C = 0) : (0 ≤ C.max ∧ C.max ≤ 16384) ∧ ∀ x ∈ sizesL C, x ≤ 16384 := by
  by_cases hc : C.max < 0 ∨ 16384 < C.max
  · rw [sizesE_range hc] at h; cases h
  · refine ⟨by omega, fun x hx => ?_⟩
    rcases Int.lt_or_le 16384 x with hl | hl
    · rw [sizesE_long hc hx hl] at h; cases h
    · exact hl
theorem defAll_good {α : Type} {lit bad : α → Int} : ∀ (xs : List α) (k : Nat) (tb : List Bool), (defAll lit bad xs k tb).1.2 = 0 → ∀ x ∈ xs, bad x = 0
  | [], _, _, _, x, hx => by simp at hx
  | y :: r, k, tb, h, x, hx => by
    unfold defAll at h
    by_cases h0 : defE tb (lit y) = 0
    · rw [if_pos h0] at h
      by_cases h1 : bad y = 0
      · rw [if_pos h1] at h
        rcases List.mem_cons.1 hx with rfl | hx
        · exact h1
        · exact defAll_good r (k + 1) _ h x hx
      · rw [if_neg h1] at h; exact absurd h h1
    · rw [if_neg h0] at h; exact absurd h h0
theorem check_parts {C : Circ} (h : (checkR C).2 = 0) : sizesE C = 0 ∧ (defR C (tab0 C.max.toNat)).1.2 = 0 ∧ (usedR C (defR C (tab0 C.max.toNat)).2).2 = 0 ∧ firstF (usesC C) = -1 ∧ (symR C).2 = 0 ∧ (commR C).2 = 0 := by
  unfold checkR at h
  by_cases h1 : sizesE C = 0
  · rw [if_neg (by simp [h1])] at h
    by_cases h2 : (defR C (tab0 C.max.toNat)).1.2 = 0
    · rw [if_neg (by simp [h2])] at h
      by_cases h3 : (usedR C (defR C (tab0 C.max.toNat)).2).2 = 0
      · rw [if_neg (by simp [h3])] at h
        by_cases h4 : firstF (usesC C) = -1
        · rw [if_neg (by simp [h4])] at h
          by_cases h5 : (symR C).2 = 0
          · rw [if_neg (by simp [h5])] at h
            exact ⟨h1, h2, h3, h4, h5, h⟩
          · rw [if_pos h5] at h; exact absurd h h5
        · rw [if_pos h4] at h; cases h
      · rw [if_pos h3] at h; exact absurd h h3
    · rw [if_pos h2] at h; exact absurd h h2
  · rw [if_pos h1] at h; exact absurd h h1
theorem right_of {C : Circ} (h : (checkR C).2 = 0) : Right C := by
  obtain ⟨h1, h2, h3, h4, _, _⟩ := check_parts h
  obtain ⟨⟨m0, m1⟩, hsz⟩ := sizes_all h1
  have htl : (tab0 C.max.toNat).length = C.max.toNat + 1 := by simp [tab0]
  have htl2 : (defR C (tab0 C.max.toNat)).2.length = C.max.toNat + 1 := by rw [defR_len, htl]
  have hI : (defI C (tab0 C.max.toNat)).1.2 = 0 := by
    unfold defR at h2
    by_cases e : (defI C (tab0 C.max.toNat)).1.2 = 0
    · exact e
    · rw [if_neg e] at h2; exact h2
  have hL : (defL C (defI C (tab0 C.max.toNat)).2).1.2 = 0 := by
    unfold defR at h2
    rw [if_pos hI] at h2
    by_cases e : (defL C (defI C (tab0 C.max.toNat)).2).1.2 = 0
    · exact e
    · rw [if_neg e] at h2; exact h2
  have hIl : (defI C (tab0 C.max.toNat)).2.length = C.max.toNat + 1 := by unfold defI; rw [defAll_len, htl]
  have hA := defR_ok h2
  rw [htl] at hA
  have hu := h3
  unfold usedR at hu
  obtain ⟨u1, hu⟩ := thenE_ok hu
  obtain ⟨u2, hu⟩ := thenE_ok hu
  obtain ⟨u3, hu⟩ := thenE_ok hu
  obtain ⟨u4, hu⟩ := thenE_ok hu
  obtain ⟨u5, hu⟩ := thenE_ok hu
  obtain ⟨u6, u7⟩ := thenE_ok hu
  have hlit : ∀ {tb : List Bool} {l : Int}, tb.length = C.max.toNat + 1 → useE tb l = 0 → LitOk C l := fun ht hl => by
    have := useE_zero hl
    rw [ht] at this
    exact ⟨this.1, by omega⟩
  have hlist : ∀ zs, (usedI zs (defR C (tab0 C.max.toNat)).2).2 = 0 → ∀ l ∈ zs, LitOk C l := fun zs hz l hl => hlit htl2 (firstE_ok _ _ hz l hl)
  have hU := usedR_ok h3
  rw [htl2] at hU
  have hfit : ∀ z ∈ C.ands, FitT C.max z := fit_of h2 h3 (by rw [htl]; omega) (by rw [htl2, htl])
  simp only [sizesL, List.mem_cons, List.not_mem_nil, or_false, forall_eq_or_imp, forall_eq] at hsz
  obtain ⟨s1, s2, s3, s4, s5, s6, _, s8, s9, s10, s11⟩ := hsz
  refine ⟨m0, m1, by omega, by omega, by omega, by omega, by omega, by omega, by omega, by omega, by omega, by omega, fun l hl => ?_, fun z hz => ⟨?_, hlit htl2 (firstE_ok _ _ u1 z hz), ?_⟩, hlist _ u2, hlist _ u3, hlist _ u4, fun zs hz => hlist zs (firstE_ok _ _ u5 zs hz), hlist _ u6, fun z hz => ⟨?_, ?_, ?_⟩, h4, usesC_ok m0 hfit⟩
  · have := defAll_ok _ _ _ hI l hl
    rw [htl] at this
    exact ⟨this.1, by have := this.2; omega⟩
  · have := defAll_ok _ _ _ hL z hz
    rw [hIl] at this
    exact ⟨this.1, by have := this.2; omega⟩
  · have := defAll_good _ _ _ hL z hz
    unfold resetE at this
    by_cases e1 : z.2.2 = 0
    · exact .inl e1
    · by_cases e2 : z.2.2 = 1
      · exact .inr (.inl e2)
      · by_cases e3 : z.2.2 = z.1
        · exact .inr (.inr e3)
        · rw [if_pos ⟨e1, e2, e3⟩] at this; cases this
  · have := hA z hz
    exact ⟨this.1, by have := this.2; omega⟩
  · have := (hU z hz).1
    exact ⟨this.1, by have := this.2; omega⟩
  · have := (hU z hz).2
    exact ⟨this.1, by have := this.2; omega⟩
theorem Right.fit {C : Circ} (h : Right C) : ∀ z ∈ C.ands, FitT C.max z := fun z hz => by
  obtain ⟨⟨a, b⟩, c, d⟩ := h.a z hz
  exact ⟨⟨by omega, b⟩, c, d⟩
theorem usesC_len (C : Circ) : (usesC C).length = C.ands.length := by simp [usesC]

set_option maxHeartbeats 1000000 in
set_option maxRecDepth 100000 in
theorem Order_any (w : World) (V : CV) (C : Circ) (h : C.In w V) (ok : C.Ok) :
    Calls Try.prog 51 #[V.val C.max] w fun e w' => Below w.heap.size w w' ∧ ∃ v out, e = .returned (.tuple #[v, .int .i64 (checkR C).2]) ∧ ((checkR C).2 ≠ 0 → v = .slice none 0 0) ∧
      ((checkR C).2 = 0 → w'.ownsRow w.heap.size 3 1 v out.length (out.map (Value.int .i64)) ∧ Greedy (usesC C) out ∧ out.length = C.ands.length) := by
  have HB := Lib.hid ((Below.refl w.heap.size w).alloc (Nat.le_refl _) (.cells (V.cells C.max) 29))
  have hin := h.below HB.out
  have hck := Check_any _ V C hin ok
  obtain ⟨a, r, hr⟩ : ∃ a r, checkR C = (a, r) := ⟨_, _, rfl⟩
  have HRR := Lib.hid hr
  obtain ⟨m, hmm⟩ : ∃ m, C.max = m := ⟨_, rfl⟩
  have HMM := Lib.hid hmm
  obtain ⟨Vi, Vl, Vo, Vb, Vc, Vj, Vf, Va, Vs, Vt⟩ := V
  rw [hr, hmm] at hck
  rw [hmm] at hin HB
  rw [hr]
  have HCK := Lib.hid hck
  have HIN := Lib.hid hin
  rw [hmm]
  simp only
  clear hck hin h ok hr hmm
  by_cases h0 : r = 0
  · subst h0
    have hrt := right_of (C := C) (by rw [HRR.out])
    have HRT := Lib.hid hrt
    clear hrt
    go_enter Try.func51, Try.ntmps51
    go_wp2_with (first
      | (go_at_call 44; refine HCK.out.mono ?_; rintro e w1 ⟨rfl, hb1⟩; have HB1 := Lib.hid hb1; have HH := Lib.hid ((HB.out.trans (HB1.out.mono (by simp))).size); obtain ⟨c0, c1, c2, c3, c4, c5, c6, c7, c8, c9, c10⟩ := box_cells hb1; clear hb1)
      | (go_at_call 89; have hu := usesOf_any w1 _ C (HIN.out.below HB1.out) HRT.out.m0 HRT.out.m1 HRT.out.na HRT.out.fit; rw [HMM.out] at hu; refine hu.mono ?_; rintro e w2 ⟨g, rfl, hg2, hb2, hp2⟩; have HB2 := Lib.hid hb2; have HH3 := Lib.hid (Nat.le_trans HH.out hb2.size); have HP2 := Lib.hid hp2; clear hu hg2 hb2 hp2)
      | (go_at_call 102; have ho := order_any w2 g (usesC C) HP2.out HRT.out.uok HRT.out.acy (by rw [usesC_len]; exact HRT.out.na); rw [usesC_len] at ho; refine ho.mono ?_; rintro e w3 ⟨v3, out, rfl, ho3, hg3, hl3, hb3⟩; clear ho))
    go_ret2
    exact ⟨((HB.out.trans (HB1.out.mono (by simp))).trans (HB2.out.mono HH.out)).trans (hb3.mono HH3.out), v3, out, rfl, fun h => absurd rfl h, fun _ => ⟨own_base ho3 HH3.out, hg3, hl3⟩⟩
  · have hq : (r != 0) = true := by simpa using h0
    have H0 := Lib.hid h0
    clear h0
    go_enter Try.func51, Try.ntmps51
    go_wp2_with (go_at_call 44; refine HCK.out.mono ?_; rintro e w1 ⟨rfl, hb1⟩; have HB1 := Lib.hid hb1; clear hb1)
    go_ret2
    exact ⟨HB.out.trans (HB1.out.mono (by simp)), .slice none 0 0, [], rfl, fun _ => rfl, fun h => absurd h H0.out⟩
theorem greedy_perm {uses : List (Int × Int)} {out : List Int} (h : Greedy uses out) (hl : out.length = uses.length) : out.Perm (intRange uses.length) := by
  refine (List.perm_ext_iff_of_nodup h.nodup (nodup_intRange _)).2 fun a => ⟨fun ha => mem_intRange.2 (h.inR a ha), fun ha => ?_⟩
  refine Classical.byContradiction fun hna => ?_
  have h2 : (a :: out).Nodup := List.nodup_cons.2 ⟨hna, h.nodup⟩
  have := nodup_sub h2 (m := intRange uses.length) (fun x hx => by
    rcases List.mem_cons.1 hx with rfl | hx
    · exact ha
    · exact mem_intRange.2 (h.inR x hx))
  rw [len_intRange] at this
  simp at this
  omega
theorem nodup_get {α : Type} : ∀ {l : List α}, l.Nodup → ∀ {i j : Nat} {x : α}, l[i]? = some x → l[j]? = some x → i = j
  | [], _, i, j, x, hi, _ => by simp at hi
  | a :: r, h, i, j, x, hi, hj => by
    rw [List.nodup_cons] at h
    cases i with
    | zero =>
      cases j with
      | zero => rfl
      | succ j =>
        simp at hi hj
        subst hi
        exact absurd (List.mem_of_getElem? hj) h.1
    | succ i =>
      cases j with
      | zero =>
        simp at hi hj
        subst hj
        exact absurd (List.mem_of_getElem? hi) h.1
      | succ j =>
        rw [nodup_get h.2 (i := i) (j := j) (by simpa using hi) (by simpa using hj)]
end Go.Proofs.Ytdodhbfplglbkaa

/- Cone, as plain data: a run of a bad's cut, taken back, is the circuit's run. -/
import Derived.Test.YtilbgopdciiadaaConZA
import Derived.Test.YtilbgopdciiadaaSimS
import Derived.Test.YtilbgopdciiadaaSimG
namespace Go.Proofs.Ytilbgopdciiadaa

theorem firstF_rank {uses : List (Int × Int)} (hu : UsesOk uses.length uses) (hn : uses.length ≤ 16384) (rk : Int → Int) (h : ∀ x y, InR uses.length x → Edge uses x y → InR uses.length y ∧ rk y < rk x) : firstF uses = -1 := by
  refine Classical.byContradiction fun hne => ?_
  obtain ⟨hr, y, he, hp⟩ := firstF_some hu hn hne
  have key : ∀ {a b : Int}, Path uses a b → InR uses.length a → rk b ≤ rk a := fun hp => by
    induction hp with
    | refl => intro _; omega
    | step e _ ih =>
      intro ha
      have h1 := h _ _ ha e
      have h2 := ih h1.1
      omega
  have h1 := h _ _ hr he
  have := key hp h1.1
  omega
/-- What a cone holds. -/
structure CutF (C : Circ) (s : List Bool) (L : List Int) : Prop where
  a : ∀ z ∈ C.ands, s.getD (vOf z.1) false = true → (2 ≤ z.2.1 → s.getD (vOf z.2.1) false = true) ∧ (2 ≤ z.2.2 → s.getD (vOf z.2.2) false = true)
  l : ∀ z ∈ C.latches, s.getD (vOf z.1) false = true → 2 ≤ z.2.1 → s.getD (vOf z.2.1) false = true
  r : ∀ l ∈ L, 2 ≤ l → s.getD (vOf l) false = true
theorem cutF_of {C : Circ} (hz : (checkR C).2 = 0) {a : Nat} (ha : a < C.bads.length) : CutF C (conB C a) (rootsB C a) := by
  have hf := fine_of hz
  have hc := fits_bad hz ha
  refine ⟨fun z hm hs => ?_, fun z hm hs h2 => ?_, fun l hl h2 => (supF_at hc _).2 (.root hl h2)⟩
  · have h1 := (supF_at hc _).1 hs
    have e := thruU_and hf hm
    refine ⟨fun h2 => ?_, fun h2 => ?_⟩
    · have := Hang.left h1 (by rw [e]; exact h2)
      rw [e] at this
      exact (supF_at hc _).2 this
    · have := Hang.right h1 (by rw [e]; exact h2)
      rw [e] at this
      exact (supF_at hc _).2 this
  · have h1 := (supF_at hc _).1 hs
    have e := thruU_latch hf hm
    have := Hang.left h1 (by rw [e]; exact h2)
    rw [e] at this
    exact (supF_at hc _).2 this
section
variable {C : Circ} {s : List Bool}
theorem cutD_eq : cutD C s = (defsL C).filter fun d => s.getD (vOf d) false := by
  unfold cutD defsL cutI cutL cutA selF
  rw [List.filter_append, List.filter_append, List.filter_map, List.filter_map]
  rfl
theorem cutD_mem {d : Int} : d ∈ cutD C s ↔ d ∈ defsL C ∧ s.getD (vOf d) false = true := by rw [cutD_eq, List.mem_filter]
theorem cutD_nd (hf : Fine C) : (cutD C s).Nodup := by
  rw [cutD_eq]
  exact hf.d.nd.filter _
theorem lit0_len (C : Circ) : (lit0 C).length = C.max.toNat + 1 := by simp [lit0]
theorem cutM_at (hf : Fine C) {k : Nat} {d : Int} (hd : (cutD C s)[k]? = some d) : (litM C s).getD (vOf d) 0 = 2 * ((k : Int) + 1) := by
  have h0 := hf.m0
  have h1 := (numF_get (cutD C s) (0, lit0 C) (fun l hl => by
    have := hf.d.two l (cutD_mem.1 hl).1
    have hl0 := lit0_len C
    simp only [hl0]
    omega) (cutD_nd hf)).1 k d hd
  unfold litM vOf
  rw [h1]
  omega
theorem cutM_zero (hf : Fine C) : (litM C s).getD 0 0 = 0 := by
  have h1 := (numF_get (cutD C s) (0, lit0 C) (fun l hl => by
    have := hf.d.two l (cutD_mem.1 hl).1
    have hl0 := lit0_len C
    have h0 := hf.m0
    simp only [hl0]
    omega) (cutD_nd hf)).2 0 (fun hm => by have := (hf.d.two _ (cutD_mem.1 hm).1).1; omega)
  unfold litM
  rw [h1]
  simp [lit0, List.getD_eq_getElem?_getD]
theorem ofF_def (hf : Fine C) {k : Nat} {d : Int} (hd : (cutD C s)[k]? = some d) : ofF (litM C s) d = 2 * ((k : Int) + 1) := by
  unfold ofF
  rw [cutM_at hf hd]
  have := (hf.d.two d (cutD_mem.1 (List.mem_of_getElem? hd)).1).2.1
  omega
theorem ofF_small (hf : Fine C) {l : Int} (h0 : 0 ≤ l) (h1 : l < 2) : ofF (litM C s) l = l := by
  unfold ofF vOf
  rw [show (l / 2).toNat = 0 by omega, cutM_zero hf]
  omega
theorem ofF_use (hf : Fine C) {l : Int} (hu : UseL C l) (hs : 2 ≤ l → s.getD (vOf l) false = true) : (l < 2 ∧ ofF (litM C s) l = l) ∨ (2 ≤ l ∧ ∃ k : Nat, (cutD C s)[k]? = some (2 * (l / 2)) ∧ ofF (litM C s) l = 2 * ((k : Int) + 1) + l % 2) := by
  have h0 := hu.1
  rcases Int.lt_or_le l 2 with h | h
  · exact .inl ⟨h, ofF_small hf h0 h⟩
  · refine .inr ⟨h, ?_⟩
    have hd : 2 * (l / 2) ∈ defsL C := by
      rcases hu.2.2 with h' | h'
      · omega
      · exact h'
    have hv : vOf (2 * (l / 2)) = vOf l := by unfold vOf; omega
    obtain ⟨k, hk⟩ := List.getElem?_of_mem (cutD_mem.2 ⟨hd, by rw [hv]; exact hs h⟩)
    refine ⟨k, hk, ?_⟩
    have := cutM_at hf hk
    rw [hv] at this
    unfold ofF
    rw [this]
variable {a : Nat}
theorem cutX_defs : defsL (cutX C s a) = (cutD C s).map (ofF (litM C s)) := by
  unfold defsL cutD cutX
  simp only [List.map_append, List.map_map]
  rfl
theorem cutX_def (hf : Fine C) {k : Nat} {l : Int} (h : (defsL (cutX C s a))[k]? = some l) : l = 2 * ((k : Int) + 1) := by
  rw [cutX_defs, List.getElem?_map] at h
  cases hd : (cutD C s)[k]? with
  | none => rw [hd] at h; cases h
  | some d =>
    rw [hd] at h
    simp only [Option.map_some, Option.some.injEq] at h
    rw [← h]
    exact ofF_def hf hd
theorem cutX_max : (cutX C s a).max = ((cutD C s).length : Int) := by
  unfold cutX cutD
  simp
  omega
theorem cutX_mem (hf : Fine C) {l : Int} : l ∈ defsL (cutX C s a) ↔ ∃ k : Nat, k < (cutD C s).length ∧ l = 2 * ((k : Int) + 1) := by
  constructor
  · intro hl
    obtain ⟨k, hk⟩ := List.getElem?_of_mem hl
    have h1 := (List.getElem?_eq_some_iff.1 hk).1
    rw [cutX_defs, List.length_map] at h1
    exact ⟨k, h1, cutX_def hf hk⟩
  · rintro ⟨k, hk, rfl⟩
    obtain ⟨x, hx⟩ : ∃ x, (defsL (cutX C s a))[k]? = some x := ⟨_, List.getElem?_eq_getElem (by rw [cutX_defs, List.length_map]; exact hk)⟩
    rw [← cutX_def hf hx]
    exact List.mem_of_getElem? hx
theorem cutX_use (hf : Fine C) {l : Int} (hu : UseL C l) (hs : 2 ≤ l → s.getD (vOf l) false = true) : UseL (cutX C s a) (ofF (litM C s) l) := by
  have h0 := hu.1
  rcases ofF_use hf hu hs with ⟨h1, e⟩ | ⟨h2, k, hk, e⟩
  · rw [e]
    exact ⟨h0, by rw [cutX_max]; omega, .inl h1⟩
  · have hl := (List.getElem?_eq_some_iff.1 hk).1
    rw [e]
    refine ⟨by omega, by rw [cutX_max]; omega, .inr ((cutX_mem hf).2 ⟨k, hl, by omega⟩)⟩
theorem cutD_le (hf : Fine C) : ((cutD C s).length : Int) ≤ C.max := by
  have h1 : (cutD C s).length ≤ (defsL C).length := by rw [cutD_eq]; exact List.length_filter_le _ _
  have h2 : (defsL C).Nodup := hf.d.nd
  have h3 : ((defsL C).map vOf).Nodup := map_nodup (f := id) (g := vOf) (xs := defsL C) (by rw [List.map_id]; exact h2) (fun x hx y hy e => hf.v_inj hx hy e)
  have h4 := nodup_le (C.max.toNat + 1) ((0 : Nat) :: (defsL C).map vOf) (by
    rw [List.nodup_cons]
    refine ⟨fun hm => ?_, h3⟩
    obtain ⟨d, hd, e⟩ := List.mem_map.1 hm
    have := hf.v_lt hd
    omega) (fun x hx => by
    rcases List.mem_cons.1 hx with e | e
    · omega
    · obtain ⟨d, hd, rfl⟩ := List.mem_map.1 e
      exact (hf.v_lt hd).2)
  simp only [List.length_cons, List.length_map] at h4
  have := hf.m0
  omega
theorem reset_cut (hf : Fine C) {z : Tri} (hz : z ∈ C.latches) (hs : s.getD (vOf z.1) false = true) : (ofF (litM C s) z.2.2 = ofF (litM C s) z.1 ↔ z.2.2 = z.1) ∧ (ofF (litM C s) z.2.2 = 1 ↔ z.2.2 = 1) ∧ (ofF (litM C s) z.2.2 = 0 ∨ ofF (litM C s) z.2.2 = 1 ∨ ofF (litM C s) z.2.2 = ofF (litM C s) z.1) := by
  have hr := hf.r z hz
  have hd := hf.latch_mem hz
  obtain ⟨k, hk⟩ := List.getElem?_of_mem (cutD_mem.2 ⟨hd, hs⟩)
  have e := ofF_def hf hk
  have h2 := (hf.d.two _ hd).1
  have h3 : z.2.2 = 0 ∨ z.2.2 = 1 ∨ z.2.2 = z.1 := by
    unfold resetE at hr
    split at hr
    · cases hr
    · omega
  rcases h3 with h | h | h
  · rw [h, ofF_small hf (by omega) (by omega), e]
    refine ⟨⟨by omega, by omega⟩, ⟨by omega, by omega⟩, .inl rfl⟩
  · rw [h, ofF_small hf (by omega) (by omega), e]
    refine ⟨⟨by omega, by omega⟩, ⟨fun _ => rfl, fun _ => rfl⟩, .inr (.inl rfl)⟩
  · rw [h]
    exact ⟨⟨fun _ => rfl, fun _ => rfl⟩, ⟨fun h' => by omega, fun h' => by omega⟩, .inr (.inr rfl)⟩
theorem cutA_at {j : Nat} {z' : Tri} (h : (cutX C s a).ands[j]? = some z') : ∃ z, z ∈ C.ands ∧ s.getD (vOf z.1) false = true ∧ z' = of3 (litM C s) z := by
  unfold cutX at h
  simp only [List.getElem?_map] at h
  cases hz : (cutA C s)[j]? with
  | none => rw [hz] at h; cases h
  | some z =>
    rw [hz] at h
    simp only [Option.map_some, Option.some.injEq] at h
    have := selF_mem (List.mem_of_getElem? hz)
    exact ⟨z, this.1, this.2, h.symm⟩
theorem cutL_at {j : Nat} {z' : Tri} (h : (cutX C s a).latches[j]? = some z') : ∃ z, z ∈ C.latches ∧ s.getD (vOf z.1) false = true ∧ z' = of3 (litM C s) z := by
  unfold cutX at h
  simp only [List.getElem?_map] at h
  cases hz : (cutL C s)[j]? with
  | none => rw [hz] at h; cases h
  | some z =>
    rw [hz] at h
    simp only [Option.map_some, Option.some.injEq] at h
    have := selF_mem (List.mem_of_getElem? hz)
    exact ⟨z, this.1, this.2, h.symm⟩
theorem cutX_fine (hf : Fine C) (hk : CutF C s (rootsB C a)) (ha : a < C.bads.length) : Fine (cutX C s a) := by
  have m0 : 0 ≤ (cutX C s a).max := by rw [cutX_max]; omega
  have m1 : (cutX C s a).max ≤ 16384 := by rw [cutX_max]; have := cutD_le (s := s) hf; have := hf.m1; omega
  have hr : ∀ z ∈ (cutX C s a).latches, resetE z = 0 := fun z' hz' => by
    obtain ⟨j, hj⟩ := List.getElem?_of_mem hz'
    obtain ⟨z, hz, hs, rfl⟩ := cutL_at hj
    have := (reset_cut hf hz hs).2.2
    unfold resetE of3
    rw [if_neg]
    simp only
    omega
  have two : ∀ l ∈ defsL (cutX C s a), 2 ≤ l ∧ l % 2 = 0 ∧ l / 2 ≤ (cutX C s a).max := fun l hl => by
    obtain ⟨k, hk, rfl⟩ := (cutX_mem hf).1 hl
    rw [cutX_max]
    omega
  have nd : (defsL (cutX C s a)).Nodup := by
    refine List.pairwise_iff_getElem.2 fun i j hi hj hij e => ?_
    have h1 := cutX_def hf (List.getElem?_eq_getElem hi)
    have h2 := cutX_def hf (List.getElem?_eq_getElem hj)
    rw [e] at h1
    omega
  refine ⟨m0, m1, defd_of m0 (defd_conv m0 hr two nd), ⟨?_, ?_, ?_, ?_, ?_, ?_, ?_⟩, hr⟩
  · intro z' hz'
    obtain ⟨j, hj⟩ := List.getElem?_of_mem hz'
    obtain ⟨z, hz, hs, rfl⟩ := cutL_at hj
    exact cutX_use hf (hf.u.l z hz) (hk.l z hz hs)
  · intro l hl; cases hl
  · intro l hl
    have e : l = ofF (litM C s) (C.bads.getD a 0) := by simpa [cutX] using hl
    subst e
    have hb : C.bads.getD a 0 ∈ C.bads := by
      rw [List.getD_eq_getElem?_getD, List.getElem?_eq_getElem ha]
      exact List.getElem_mem ha
    exact cutX_use hf (hf.u.b _ hb) (hk.r _ (by unfold rootsB; simp))
  · intro l hl
    obtain ⟨y, hy, rfl⟩ := List.mem_map.1 (show l ∈ C.constraints.map _ from hl)
    exact cutX_use hf (hf.u.c y hy) (hk.r y (by unfold rootsB; simp [hy]))
  · intro zs hz; cases hz
  · intro l hl; cases hl
  · intro z' hz'
    obtain ⟨j, hj⟩ := List.getElem?_of_mem hz'
    obtain ⟨z, hz, hs, rfl⟩ := cutA_at hj
    have := hk.a z hz hs
    exact ⟨cutX_use hf (hf.u.a z hz).1 this.1, cutX_use hf (hf.u.a z hz).2 this.2⟩
theorem vOf_ofF (hf : Fine C) {k : Nat} {d : Int} (hd : (cutD C s)[k]? = some d) : vOf (ofF (litM C s) d) = k + 1 := by rw [ofF_def hf hd]; unfold vOf; omega
theorem cut_check (hz : (checkR C).2 = 0) {O : List Int} (hO : IsOrd C O) (hk : CutF C s (rootsB C a)) (ha : a < C.bads.length) : (checkR (cutX C s a)).2 = 0 := by
  have hf := fine_of hz
  have hrt := right_of hz
  have hfX := cutX_fine hf hk ha
  have hX := renX_of hz hO
  have hD := cutD_le (s := s) hf
  have hm1 := hf.m1
  have hlen : (cutI C s).length + (cutL C s).length + (cutA C s).length = (cutD C s).length := by unfold cutD; simp; omega
  have e1 : sizesE (cutX C s a) = 0 := sizesE_ok (by have := hfX.m0; have := hfX.m1; omega) (fun x hx => by
    have := hrt.nc
    simp only [sizesL, cutX, List.length_map, List.length_nil, List.length_cons, List.mem_cons, List.not_mem_nil, or_false] at hx
    have hw : sumW ([] : List (List Int)) = 0 := rfl
    rw [hw] at hx
    omega)
  have e2 : (defR (cutX C s a) (tab0 (cutX C s a).max.toNat)).1.2 = 0 := defd_conv hfX.m0 hfX.r hfX.d.two hfX.d.nd
  have e3 := used_conv hfX.m0 hfX.d hfX.u
  have hfit : ∀ z ∈ (cutX C s a).ands, FitT (cutX C s a).max z := fun z hz => by
    have := hfX.u.a z hz
    have h1 := hfX.d.two z.1 (List.mem_append_right _ (List.mem_map.2 ⟨z, hz, rfl⟩))
    exact ⟨⟨by omega, h1.2.2⟩, ⟨this.1.1, this.1.2.1⟩, ⟨this.2.1, this.2.2.1⟩⟩
  have hnA : (cutX C s a).ands.length ≤ 16384 := by
    have : (cutX C s a).ands.length = (cutA C s).length := by simp [cutX]
    omega
  -- the rank of a gate: the number of its variable in the circuit's order
  have e4 : firstF (usesC (cutX C s a)) = -1 := by
    refine firstF_rank (usesC_ok hfX.m0 hfit) (by rw [usesC_len]; exact hnA) (fun x => (newM C O).getD (vOf ((cutA C s).getD x.toNat (0, 0, 0)).1) 0) (fun x y hx hE => ?_)
    rw [usesC_len] at hx ⊢
    unfold InR at hx
    obtain ⟨z', hz'⟩ : ∃ z, (cutX C s a).ands[x.toNat]? = some z := ⟨_, List.getElem?_eq_getElem (by omega)⟩
    obtain ⟨z, hzx⟩ : ∃ z, (cutA C s)[x.toNat]? = some z := by
      have : x.toNat < (cutA C s).length := by
        have e : (cutX C s a).ands.length = (cutA C s).length := by simp [cutX]
        omega
      exact ⟨_, List.getElem?_eq_getElem this⟩
    have ez : z' = of3 (litM C s) z := by
      have : (cutX C s a).ands[x.toNat]? = some (of3 (litM C s) z) := by show ((cutA C s).map _)[_]? = _; rw [List.getElem?_map, hzx]; rfl
      rw [this] at hz'
      exact (Option.some.inj hz').symm
    obtain ⟨hzm, hzs⟩ := selF_mem (List.mem_of_getElem? hzx)
    obtain ⟨hy, hE⟩ := hE
    have hget : (usesC (cutX C s a)).getD x.toNat (-1, -1) = useOf (gateOf (cutX C s a)) z' := by
      unfold usesC
      simp only [List.getD_eq_getElem?_getD, List.getElem?_map, hz']
      rfl
    rw [hget] at hE
    have hxD : (cutA C s).getD x.toNat (0, 0, 0) = z := by simp [List.getD_eq_getElem?_getD, hzx]
    -- the gate's place in the order
    obtain ⟨gi, hgi⟩ := List.getElem?_of_mem hzm
    have hgO : (gi : Int) ∈ O := by
      have hp := greedy_perm hO.g (by rw [usesC_len]; exact hO.l)
      rw [usesC_len] at hp
      refine (hp.mem_iff).2 ?_
      rw [mem_intRange]
      have := (List.getElem?_eq_some_iff.1 hgi).1
      omega
    obtain ⟨j, hj⟩ := List.getElem?_of_mem hgO
    have hgD : C.ands.getD ((gi : Int)).toNat (0, 0, 0) = z := by simp [List.getD_eq_getElem?_getD, hgi]
    have hline := line_gate hX.n hj
    rw [hgD] at hline
    have hrz := hX.n.get _ _ hline
    have key : ∀ l : Int, (l = z.2.1 ∨ l = z.2.2) → UseL C l → (2 ≤ l → s.getD (vOf l) false = true) → (gateOf (cutX C s a)).getD (ofF (litM C s) l / 2).toNat 0 = y → InR (cutX C s a).ands.length y ∧ (newM C O).getD (vOf ((cutA C s).getD y.toNat (0, 0, 0)).1) 0 < (newM C O).getD (vOf z.1) 0 := fun l hl hu hs he => by
      obtain ⟨g1, g2⟩ := gateOf_get hfX.m0 hfX.d
      have huX := cutX_use (a := a) hf hu hs
      by_cases hm : 2 * (((ofF (litM C s) l / 2).toNat : Nat) : Int) ∈ (cutX C s a).ands.map (·.1)
      · obtain ⟨z2', hz2', e'⟩ := List.mem_map.1 hm
        obtain ⟨q, hq⟩ := List.getElem?_of_mem hz2'
        have h5 := g1 q z2' hq
        rw [e', show (2 * (((ofF (litM C s) l / 2).toNat : Nat) : Int) / 2).toNat = (ofF (litM C s) l / 2).toNat by omega, he] at h5
        obtain ⟨z2, hzq⟩ : ∃ z, (cutA C s)[q]? = some z := by
          have : q < (cutA C s).length := by
            have h6 := (List.getElem?_eq_some_iff.1 hq).1
            have e : (cutX C s a).ands.length = (cutA C s).length := by simp [cutX]
            omega
          exact ⟨_, List.getElem?_eq_getElem this⟩
        have ez2 : z2' = of3 (litM C s) z2 := by
          have : (cutX C s a).ands[q]? = some (of3 (litM C s) z2) := by show ((cutA C s).map _)[_]? = _; rw [List.getElem?_map, hzq]; rfl
          rw [this] at hq
          exact (Option.some.inj hq).symm
        obtain ⟨hz2m, hz2s⟩ := selF_mem (List.mem_of_getElem? hzq)
        have hq6 := (List.getElem?_eq_some_iff.1 hq).1
        have hyq : y.toNat = q := by omega
        refine ⟨⟨by omega, by omega⟩, ?_⟩
        rw [hyq, show (cutA C s).getD q (0, 0, 0) = z2 by simp [List.getD_eq_getElem?_getD, hzq]]
        -- the literal's variable is that gate's
        have h0 := hu.1
        rcases ofF_use hf hu hs with ⟨h1, e⟩ | ⟨h2, k, hkk, e⟩
        · rw [e] at e'
          have hzz : 2 ≤ z2'.1 := (hfX.d.two _ (List.mem_append_right _ (List.mem_map.2 ⟨z2', hz2', rfl⟩))).1
          omega
        · obtain ⟨k2, hk2⟩ := List.getElem?_of_mem (cutD_mem (s := s).2 ⟨hf.and_mem hz2m, hz2s⟩)
          have e2 := ofF_def hf hk2
          have e3 : z2'.1 = 2 * ((k2 : Int) + 1) := by rw [ez2]; exact e2
          have hkk2 : k = k2 := by rw [e] at e'; omega
          subst hkk2
          rw [hkk] at hk2
          have hv : z2.1 = 2 * (l / 2) := (Option.some.inj hk2).symm
          have hlt := ren_lt hf hX.n hO.g hO.l hj (l := l) (by rw [hgD]; exact hl)
          have hrz2 : (newM C O).getD (vOf z.1) 0 = _ := hrz
          rw [hrz2, hv]
          rcases mv_cases hX.n hu with ⟨h7, _⟩ | ⟨p, hp, hmv⟩
          · omega
          · have h8 := hX.n.get p _ hp
            unfold vOf
            rw [h8]
            rw [hmv] at hlt
            push_cast
            omega
      · have := g2 (ofF (litM C s) l / 2).toNat (by have := huX.1; have := huX.2.1; omega) hm
        rw [he] at this
        exact absurd this hy
    have hca := hk.a z hzm hzs
    have hua := hf.u.a z hzm
    rw [ez] at hE
    show InR _ y ∧ (newM C O).getD (vOf ((cutA C s).getD y.toNat (0, 0, 0)).1) 0 < (newM C O).getD (vOf ((cutA C s).getD x.toNat (0, 0, 0)).1) 0
    rw [hxD]
    rcases hE with hE | hE
    · exact key z.2.1 (.inl rfl) hua.1 hca.1 hE
    · exact key z.2.2 (.inr rfl) hua.2 hca.2 hE
  unfold checkR
  rw [if_neg (by simp [e1]), if_neg (by simp [e2]), if_neg (by simp [e3]), if_neg (by simp [e4])]
  have hsy : (symR (cutX C s a)).2 = 0 := rfl
  have hco : (commR (cutX C s a)).2 = 0 := rfl
  rw [if_neg (by simp [hsy])]
  exact hco
end
end Go.Proofs.Ytilbgopdciiadaa

namespace Go.Proofs.Ytilbgopdciiadaa

/-- The truths at some places. -/
def subB (N : List Int) (st : List Bool) : List Bool := N.map fun n => st.getD n.toNat false
theorem numsF_lt (s : List Bool) : ∀ (ds : List Int) (k : Nat), (∀ n ∈ numsF s ds k, (k : Int) ≤ n ∧ n < ((k + ds.length : Nat) : Int)) ∧ (numsF s ds k).Pairwise (· < ·)
  | [], k => ⟨fun n hn => by simp [numsF] at hn, by simp [numsF]⟩
  | d :: r, k => by
    obtain ⟨h1, h2⟩ := numsF_lt s r (k + 1)
    have h3 : ∀ n ∈ numsF s r (k + 1), (k : Int) ≤ n ∧ n < ((k + (d :: r).length : Nat) : Int) := fun n hn => by
      have := h1 n hn
      simp only [List.length_cons]
      omega
    unfold numsF
    split
    · refine ⟨fun n hn => ?_, List.pairwise_cons.2 ⟨fun n hn => by have := (h1 n hn).1; omega, h2⟩⟩
      rcases List.mem_cons.1 hn with e | e
      · simp only [List.length_cons]; omega
      · exact h3 n e
    · exact ⟨h3, h2⟩
theorem putS_out : ∀ (P : List Int) (Q T : List Bool) (j : Nat), (∀ p ∈ P, p.toNat ≠ j) → (putS T P Q).getD j false = T.getD j false
  | [], _, _, _, _ => by unfold putS; rfl
  | p :: r, [], T, j, _ => by unfold putS; rfl
  | p :: r, q :: s, T, j, h => by
    unfold putS
    rw [putS_out r s _ j (fun x hx => h x (by simp [hx]))]
    have := h p (by simp)
    simp [List.getD_eq_getElem?_getD, this]
theorem putS_in : ∀ (P : List Int) (Q T : List Bool), P.Pairwise (· < ·) → (∀ p ∈ P, 0 ≤ p ∧ p < (T.length : Int)) → P.length = Q.length → subB P (putS T P Q) = Q
  | [], [], _, _, _, _ => rfl
  | [], _ :: _, _, _, _, h => by cases h
  | _ :: _, [], _, _, _, h => by cases h
  | p :: r, q :: s, T, hp, hb, hl => by
    obtain ⟨h1, h2⟩ := List.pairwise_cons.1 hp
    have hpb := hb p (by simp)
    have ih := putS_in r s (T.set p.toNat q) h2 (fun x hx => by rw [List.length_set]; exact hb x (by simp [hx])) (by simpa using hl)
    unfold putS
    show _ :: subB r _ = _
    rw [ih]
    congr 1
    show (putS (T.set p.toNat q) r s).getD p.toNat false = q
    rw [putS_out r s _ p.toNat (fun x hx => by have := h1 x hx; have := hb x (by simp [hx]); omega)]
    have : p.toNat < T.length := by omega
    simp [List.getD_eq_getElem?_getD, this]
section
variable {C : Circ} {s : List Bool}
/-- A thing that is kept has a place in what is kept. -/
theorem sel_place {α : Type} {f : α → Int} {xs : List α} {j : Nat} {x : α} (h : xs[j]? = some x) (hs : s.getD (vOf (f x)) false = true) : ∃ q : Nat, (numsF s (xs.map f) 0)[q]? = some (j : Int) ∧ (selF f s xs)[q]? = some x := by
  have hm : (j : Int) ∈ numsF s (xs.map f) 0 := numsF_mem.2 ⟨j, f x, by rw [List.getElem?_map, h]; rfl, hs, by simp⟩
  obtain ⟨q, hq⟩ := List.getElem?_of_mem hm
  obtain ⟨j', x', e, hx', hsel⟩ := selF_get hq
  have ej : j' = j := by simp at e; omega
  rw [ej, h] at hx'
  exact ⟨q, hq, by rw [hsel, hx']⟩
theorem sub_map {α : Type} {f : α → Int} {xs : List α} (g : α → Bool) : subB (numsF s (xs.map f) 0) (xs.map g) = (selF f s xs).map g := by
  apply List.ext_getElem?
  intro q
  unfold subB
  rw [List.getElem?_map, List.getElem?_map]
  cases hq : (numsF s (xs.map f) 0)[q]? with
  | none =>
    have h1 := List.getElem?_eq_none_iff.1 hq
    rw [selF_len] at h1
    rw [List.getElem?_eq_none_iff.2 h1]
    rfl
  | some i =>
    obtain ⟨j, x, e, hx, hsel⟩ := selF_get hq
    rw [hsel]
    simp only [Option.map_some, Option.some.injEq]
    rw [e]
    simp [List.getD_eq_getElem?_getD, hx]
abbrev cutIn (C : Circ) (s : List Bool) : List Int := numsF s C.inputs 0
abbrev cutLn (C : Circ) (s : List Bool) : List Int := numsF s (C.latches.map (·.1)) 0
theorem cutIn_eq : cutIn C s = numsF s (C.inputs.map id) 0 := by rw [List.map_id]
theorem litV_ofF (hf : Fine C) {T T' : List Bool} (z0 : T.getD 0 false = false) (z1 : T'.getD 0 false = false) {l : Int} (hu : UseL C l) (hs : 2 ≤ l → s.getD (vOf l) false = true)
    (h : ∀ (k : Nat), (cutD C s)[k]? = some (2 * (l / 2)) → T'.getD (k + 1) false = T.getD (vOf l) false) : litV T' (ofF (litM C s) l) = litV T l := by
  have h0 := hu.1
  rcases ofF_use hf hu hs with ⟨h1, e⟩ | ⟨_, k, hk, e⟩
  · rw [e]
    unfold litV
    rw [show (l / 2).toNat = 0 by omega, z0, z1]
  · have := h k hk
    rw [e]
    unfold litV
    rw [show ((2 * ((k : Int) + 1) + l % 2) / 2).toNat = k + 1 by omega, this, show (2 * ((k : Int) + 1) + l % 2) % 2 = l % 2 by omega]
    rfl
variable {a : Nat} {O : List Int}
theorem cut_core (hz : (checkR C).2 = 0) (hO : IsOrd C O) (hk : CutF C s (rootsB C a)) (ha : a < C.bads.length) {st row T T' : List Bool} (h1 : st.length = C.latches.length) (h2 : row.length = C.inputs.length)
    (v : ValOk C st row T) (v' : ValOk (cutX C s a) (subB (cutLn C s) st) (subB (cutIn C s) row) T') :
    ∀ (k : Nat) (d : Int), (linesL C O)[k]? = some d → s.getD (vOf d) false = true → ∀ q : Nat, (cutD C s)[q]? = some d → T'.getD (q + 1) false = T.getD (vOf d) false := by
  have hf := fine_of hz
  have hX := renX_of hz hO
  have hfX := cutX_fine hf hk ha
  have z0 : T.getD 0 false = false := v.n 0 (fun hm => by have := (hf.d.two _ hm).1; omega)
  have z1 : T'.getD 0 false = false := v'.n 0 (fun hm => by have := (hfX.d.two _ hm).1; omega)
  intro k
  induction k using Nat.strongRecOn with
  | ind k ih =>
  intro d hd hs q hq
  have hkl := (List.getElem?_eq_some_iff.1 hd).1
  rw [hX.n.len] at hkl
  have hvq := vOf_ofF hf hq
  by_cases c1 : k < C.inputs.length
  · have hi : C.inputs[k]? = some d := by
      unfold linesL at hd
      rw [List.append_assoc, List.getElem?_append_left c1] at hd
      exact hd
    obtain ⟨p, hp1, hp2⟩ := sel_place (f := id) hi hs
    rw [List.map_id] at hp1
    obtain ⟨r, hr⟩ : ∃ r, row[k]? = some r := ⟨_, List.getElem?_eq_getElem (by omega)⟩
    have e1 := v.i k d r hi hr
    have e2 := v'.i p (ofF (litM C s) d) r (by show ((cutI C s).map _)[p]? = _; rw [List.getElem?_map, show (cutI C s)[p]? = some d from hp2]; rfl) (by
      show ((cutIn C s).map _)[p]? = _
      rw [List.getElem?_map, show (cutIn C s)[p]? = some (k : Int) from hp1]
      simp [List.getD_eq_getElem?_getD, hr])
    rw [show (ofF (litM C s) d / 2).toNat = q + 1 from hvq] at e2
    rw [e2]
    exact e1.symm
  · by_cases c2 : k < C.inputs.length + C.latches.length
    · obtain ⟨z, hzz⟩ : ∃ z, C.latches[k - C.inputs.length]? = some z := ⟨_, List.getElem?_eq_getElem (by omega)⟩
      have hi : z.1 = d := by
        unfold linesL at hd
        rw [List.append_assoc, List.getElem?_append_right (by omega), List.getElem?_append_left (by simp; omega), List.getElem?_map, hzz] at hd
        exact Option.some.inj hd
      obtain ⟨p, hp1, hp2⟩ := sel_place (f := fun z : Tri => z.1) (s := s) hzz (by rw [hi]; exact hs)
      obtain ⟨b, hb⟩ : ∃ b, st[k - C.inputs.length]? = some b := ⟨_, List.getElem?_eq_getElem (by omega)⟩
      have e1 := v.l _ z b hzz hb
      have e2 := v'.l p (of3 (litM C s) z) b (by show ((cutL C s).map _)[p]? = _; rw [List.getElem?_map, show (cutL C s)[p]? = some z from hp2]; rfl) (by
        show ((cutLn C s).map _)[p]? = _
        rw [List.getElem?_map, show (cutLn C s)[p]? = some ((k - C.inputs.length : Nat) : Int) from hp1]
        simp [List.getD_eq_getElem?_getD, hb])
      rw [hi] at e1
      rw [show ((of3 (litM C s) z).1 / 2).toNat = q + 1 by show vOf (ofF (litM C s) z.1) = _; rw [hi]; exact hvq] at e2
      rw [e2]
      exact e1.symm
    · obtain ⟨j, rfl⟩ : ∃ j, k = C.inputs.length + C.latches.length + j := ⟨k - (C.inputs.length + C.latches.length), by omega⟩
      obtain ⟨g, hg⟩ : ∃ g, O[j]? = some g := ⟨_, List.getElem?_eq_getElem (by have := hO.l; omega)⟩
      have hlg := line_gate hX.n hg
      rw [hd] at hlg
      have hi : d = (C.ands.getD g.toNat (0, 0, 0)).1 := Option.some.inj hlg
      have hr := hO.inR g (List.mem_of_getElem? hg)
      obtain ⟨z, hzz⟩ : ∃ z, C.ands[g.toNat]? = some z := ⟨_, List.getElem?_eq_getElem (by omega)⟩
      have hzD : C.ands.getD g.toNat (0, 0, 0) = z := by simp [List.getD_eq_getElem?_getD, hzz]
      have hrl := fun (l' : Int) (hl' : l' = (C.ands.getD g.toNat (0, 0, 0)).2.1 ∨ l' = (C.ands.getD g.toNat (0, 0, 0)).2.2) => ren_lt hf hX.n hO.g hO.l hg hl'
      rw [hzD] at hi hrl
      have hzm := List.mem_of_getElem? hzz
      have hu := hf.u.a z hzm
      have hca := hk.a z hzm (by rw [← hi]; exact hs)
      obtain ⟨p, _, hp2⟩ := sel_place (f := fun z : Tri => z.1) (s := s) hzz (by rw [← hi]; exact hs)
      have key : ∀ l', (l' = z.2.1 ∨ l' = z.2.2) → UseL C l' → (2 ≤ l' → s.getD (vOf l') false = true) → litV T' (ofF (litM C s) l') = litV T l' := fun l' hl' hu' hs' =>
        litV_ofF hf z0 z1 hu' hs' fun q2 hq2 => by
          have h5 := hrl l' hl'
          have h6 := hu'.1
          rcases mv_cases hX.n hu' with ⟨h7, _⟩ | ⟨k2, hk2, hmv⟩
          · have := (hf.d.two _ (cutD_mem.1 (List.mem_of_getElem? hq2)).1).1
            omega
          · rw [hmv] at h5
            have hv : vOf (2 * (l' / 2)) = vOf l' := by unfold vOf; omega
            have := ih k2 (by push_cast at h5; omega) _ hk2 (cutD_mem.1 (List.mem_of_getElem? hq2)).2 q2 hq2
            rw [hv] at this
            exact this
      have k1 := key _ (.inl rfl) hu.1 hca.1
      have k2 := key _ (.inr rfl) hu.2 hca.2
      have e1 := v.a z hzm
      have e2 := v'.a (of3 (litM C s) z) (List.mem_map.2 ⟨z, List.mem_of_getElem? hp2, rfl⟩)
      rw [show ((of3 (litM C s) z).1 / 2).toNat = q + 1 by show vOf (ofF (litM C s) z.1) = _; rw [← hi]; exact hvq] at e2
      rw [e2, hi]
      show (litV T' (ofF (litM C s) z.2.1) && litV T' (ofF (litM C s) z.2.2)) = T.getD (z.1 / 2).toNat false
      rw [k1, k2, e1]
/-- What a cut and its circuit share at one state and one row. -/
structure CutV (C : Circ) (s : List Bool) (T T' : List Bool) : Prop where
  e : ∀ l, UseL C l → (2 ≤ l → s.getD (vOf l) false = true) → litV T' (ofF (litM C s) l) = litV T l
theorem cutV_of (hz : (checkR C).2 = 0) (hO : IsOrd C O) (hk : CutF C s (rootsB C a)) (ha : a < C.bads.length) {st row T T' : List Bool} (h1 : st.length = C.latches.length) (h2 : row.length = C.inputs.length)
    (v : ValOk C st row T) (v' : ValOk (cutX C s a) (subB (cutLn C s) st) (subB (cutIn C s) row) T') : CutV C s T T' := by
  have hf := fine_of hz
  have hX := renX_of hz hO
  have hfX := cutX_fine hf hk ha
  have z0 : T.getD 0 false = false := v.n 0 (fun hm => by have := (hf.d.two _ hm).1; omega)
  have z1 : T'.getD 0 false = false := v'.n 0 (fun hm => by have := (hfX.d.two _ hm).1; omega)
  refine ⟨fun l hu hs => litV_ofF hf z0 z1 hu hs fun q hq => ?_⟩
  have hm := cutD_mem.1 (List.mem_of_getElem? hq)
  obtain ⟨k, hkk⟩ := List.getElem?_of_mem ((hX.n.mem _).2 hm.1)
  have hv : vOf (2 * (l / 2)) = vOf l := by unfold vOf; have := hu.1; omega
  have := cut_core hz hO hk ha h1 h2 v v' k _ hkk hm.2 q hq
  rw [hv] at this
  exact this
section
variable {T T' : List Bool}
theorem CutV.next (r : CutV C s T T') (hf : Fine C) (hk : CutF C s (rootsB C a)) : nextF (cutX C s a) T' = subB (cutLn C s) (nextF C T) := by
  unfold nextF
  rw [sub_map]
  show ((cutL C s).map _).map _ = _
  rw [List.map_map]
  refine List.map_congr_left fun z hz => ?_
  have := selF_mem hz
  exact r.e _ (hf.u.l z this.1) (hk.l z this.1 this.2)
theorem CutV.holds (r : CutV C s T T') (hf : Fine C) (hk : CutF C s (rootsB C a)) : holdsF (cutX C s a) T' = holdsF C T := by
  unfold holdsF
  show (C.constraints.map _).all _ = _
  rw [List.all_map]
  exact all_congr fun l hl => r.e _ (hf.u.c l hl) (hk.r l (by unfold rootsB; simp [hl]))
end
theorem placesG_mem {T : List Bool} {x : Int} : ∀ {zs : List Int} {k : Nat}, x ∈ placesG T zs k ↔ ∃ i z, zs[i]? = some z ∧ litV T z = true ∧ x = ((k + i : Nat) : Int)
  | [], k => by simp [placesG]
  | z :: r, k => by
    have ih := placesG_mem (T := T) (x := x) (zs := r) (k := k + 1)
    have hstep : (∃ i y, (z :: r)[i]? = some y ∧ litV T y = true ∧ x = ((k + i : Nat) : Int)) ↔ ((litV T z = true ∧ x = (k : Int)) ∨ ∃ i y, r[i]? = some y ∧ litV T y = true ∧ x = ((k + 1 + i : Nat) : Int)) := by
      constructor
      · rintro ⟨i, y, h1, h2, h3⟩
        cases i with
        | zero => exact .inl ⟨by simp at h1; rw [h1]; exact h2, by simpa using h3⟩
        | succ i => exact .inr ⟨i, y, by simpa using h1, h2, by rw [h3]; congr 1; omega⟩
      · rintro (⟨h1, h2⟩ | ⟨i, y, h1, h2, h3⟩)
        · exact ⟨0, z, rfl, h1, by simpa using h2⟩
        · exact ⟨i + 1, y, by simpa using h1, h2, by rw [h3]; congr 1; omega⟩
    rw [hstep, ← ih]
    rw [placesG]
    split
    · rename_i h; simp [h]
    · rename_i h; simp [h]
/-- A moment of the cut's run and one of the circuit's. -/
structure SameM (C : Circ) (s : List Bool) (a : Nat) (m' m : Mom) : Prop where
  h : m'.holds = m.holds
  b : (m'.bads = [0] ∧ (a : Int) ∈ m.bads) ∨ (m'.bads = [] ∧ (a : Int) ∉ m.bads)
  s : m'.st = subB (cutLn C s) m.st
  l : m.st.length = C.latches.length
theorem CutV.mom {T T' : List Bool} (r : CutV C s T T') (hf : Fine C) (hk : CutF C s (rootsB C a)) (ha : a < C.bads.length) {st : List Bool} (hst : st.length = C.latches.length) : SameM C s a (momOf (cutX C s a) (subB (cutLn C s) st) T') (momOf C st T) := by
  have hb : C.bads.getD a 0 ∈ C.bads := by
    rw [List.getD_eq_getElem?_getD, List.getElem?_eq_getElem ha]
    exact List.getElem_mem ha
  have hg : C.bads[a]? = some (C.bads.getD a 0) := by rw [List.getD_eq_getElem?_getD, List.getElem?_eq_getElem ha]; rfl
  have e := r.e _ (hf.u.b _ hb) (hk.r _ (by unfold rootsB; simp))
  refine ⟨r.holds hf hk, ?_, rfl, hst⟩
  show (placesF [ofF (litM C s) (C.bads.getD a 0)] T' = [0] ∧ (a : Int) ∈ placesF C.bads T) ∨ (placesF [ofF (litM C s) (C.bads.getD a 0)] T' = [] ∧ (a : Int) ∉ placesF C.bads T)
  unfold placesF
  rw [placesG_mem]
  simp only [placesG, e]
  by_cases hl : litV T (C.bads.getD a 0) = true
  · left
    rw [if_pos hl]
    exact ⟨rfl, a, _, hg, hl, by simp⟩
  · right
    rw [if_neg hl]
    refine ⟨rfl, ?_⟩
    rintro ⟨i, z, h1, h2, h3⟩
    have : i = a := by simp at h3; omega
    rw [this, hg] at h1
    injection h1 with h1
    exact hl (by rw [h1]; exact h2)
theorem cut_moms (hz : (checkR C).2 = 0) (hO : IsOrd C O) (hk : CutF C s (rootsB C a)) (ha : a < C.bads.length) {P : List Int} (hX : (checkR (cutX C s a)).2 = 0) (hP : IsOrd (cutX C s a) P) :
    ∀ (rows : List (List Bool)) (st : List Bool), st.length = C.latches.length → (∀ r ∈ rows, r.length = (cutIn C s).length) →
      ∀ (i : Nat) (m' m : Mom), (momsG (cutX C s a) P (subB (cutLn C s) st) rows)[i]? = some m' → (momsG C O st (rows.map (backR C (cutIn C s))))[i]? = some m → SameM C s a m' m
  | [], _, _, _, i, m', m, h1, _ => by simp [momsG] at h1
  | r :: rest, st, hst, hr, i, m', m, h1, h2 => by
    have hf := fine_of hz
    have hnl := numsF_lt s C.inputs 0
    have hrl := hr r (by simp)
    have hsub : subB (cutIn C s) (backR C (cutIn C s) r) = r := putS_in _ _ _ hnl.2 (fun p hp => by have := hnl.1 p hp; simp; omega) hrl.symm
    have hbl : (backR C (cutIn C s) r).length = C.inputs.length := by unfold backR; rw [putS_len]; simp
    have v := valOk hz hO hst hbl
    have hsl : (subB (cutLn C s) st).length = (cutX C s a).latches.length := by
      show ((cutLn C s).map _).length = ((cutL C s).map _).length
      rw [List.length_map, List.length_map]
      exact selF_len _ _ _ _
    have hil : r.length = (cutX C s a).inputs.length := by
      show r.length = ((cutI C s).map _).length
      rw [List.length_map, hrl, cutIn_eq]
      exact selF_len _ _ _ _
    have v' := valOk hX hP hsl hil
    have cv := cutV_of hz hO hk ha hst hbl v (by rw [hsub]; exact v')
    cases i with
    | zero =>
      simp only [momsG, List.map_cons, List.getElem?_cons_zero, Option.some.injEq] at h1 h2
      rw [← h1, ← h2]
      exact cv.mom hf hk ha hst
    | succ i =>
      simp only [momsG, List.map_cons, List.getElem?_cons_succ] at h1 h2
      rw [cv.next hf hk] at h1
      exact cut_moms hz hO hk ha hX hP rest _ (nextF_len C _) (fun y hy => hr y (by simp [hy])) i m' m h1 h2
theorem cut_init (t : Tr) (ht : t.init.length = (cutLn C s).length) : subB (cutLn C s) (backT C (cutIn C s) (cutLn C s) t).init = t.init ∧ (backT C (cutIn C s) (cutLn C s) t).init.length = C.latches.length := by
  have hnl := numsF_lt s (C.latches.map (·.1)) 0
  refine ⟨putS_in _ _ _ hnl.2 (fun p hp => by have := hnl.1 p hp; simp [backI] at this ⊢; omega) ht.symm, ?_⟩
  show (putS _ _ _).length = _
  rw [putS_len]
  simp [backI]
theorem zip_all {α β : Type} {p : α × β → Bool} {xs : List α} {ys : List β} : (xs.zip ys).all p = true ↔ ∀ (j : Nat) (x : α) (y : β), xs[j]? = some x → ys[j]? = some y → p (x, y) = true := by
  rw [List.all_eq_true]
  constructor
  · intro h j x y hx hy
    have hz : (xs.zip ys)[j]? = some (x, y) := List.getElem?_zip_eq_some.2 ⟨hx, hy⟩
    exact h _ (List.mem_of_getElem? hz)
  · rintro h ⟨x, y⟩ hm
    obtain ⟨j, hj⟩ := List.getElem?_of_mem hm
    have := List.getElem?_zip_eq_some.1 hj
    exact h j x y this.1 this.2
theorem cut_starts (hf : Fine C) (t : Tr) (ht : t.init.length = (cutLn C s).length) : startsF C (backT C (cutIn C s) (cutLn C s) t).init = startsF (cutX C s a) t.init := by
  obtain ⟨hi, hl⟩ := cut_init (C := C) (s := s) t ht
  have hnl := numsF_lt s (C.latches.map (·.1)) 0
  unfold startsF
  rw [Bool.eq_iff_iff, zip_all, zip_all]
  generalize hbi : (backT C (cutIn C s) (cutLn C s) t).init = bi at hi hl
  have hout : ∀ (j : Nat) (z : Tri), C.latches[j]? = some z → s.getD (vOf z.1) false ≠ true → bi.getD j false = decide (z.2.2 = 1) := fun j z hj hs => by
    rw [← hbi]
    show (putS (backI C) (cutLn C s) t.init).getD j false = _
    rw [putS_out _ _ _ _ (fun p hp e => by
      obtain ⟨i, d, h1, h2, h3⟩ := numsF_mem.1 hp
      have : i = j := by simp at h3; omega
      rw [this, List.getElem?_map, hj] at h1
      simp only [Option.map_some, Option.some.injEq] at h1
      rw [← h1] at h2
      exact hs h2)]
    simp [backI, List.getD_eq_getElem?_getD, hj]
  constructor
  · intro h q z' b hq hb
    obtain ⟨z, hzq⟩ : ∃ z, (cutL C s)[q]? = some z := by
      have : q < (cutL C s).length := by
        have h1 := (List.getElem?_eq_some_iff.1 hq).1
        have e : (cutX C s a).latches.length = (cutL C s).length := by simp [cutX]
        omega
      exact ⟨_, List.getElem?_eq_getElem this⟩
    have ez : z' = of3 (litM C s) z := by
      have : (cutX C s a).latches[q]? = some (of3 (litM C s) z) := by show ((cutL C s).map _)[_]? = _; rw [List.getElem?_map, hzq]; rfl
      rw [this] at hq
      exact (Option.some.inj hq).symm
    obtain ⟨hzm, hzs⟩ := selF_mem (List.mem_of_getElem? hzq)
    obtain ⟨n, hn⟩ : ∃ n, (cutLn C s)[q]? = some n := ⟨_, List.getElem?_eq_getElem (by rw [selF_len (fun z : Tri => z.1)]; exact (List.getElem?_eq_some_iff.1 hzq).1)⟩
    obtain ⟨j, x, e, hx, hsel⟩ := selF_get hn
    have hxz : x = z := by rw [show (selF (fun z : Tri => z.1) s C.latches)[q]? = some z from hzq] at hsel; exact (Option.some.inj hsel).symm
    subst hxz
    have hbj : bi[j]? = some b := by
      have hj := (List.getElem?_eq_some_iff.1 hx).1
      rw [← hi] at hb
      unfold subB at hb
      rw [List.getElem?_map, hn] at hb
      simp only [Option.map_some, Option.some.injEq] at hb
      rw [← hb, show n.toNat = j by simp at e; omega]
      exact getD_bool (by omega)
    have h9 := h j x b hx hbj
    have hr := reset_cut hf hzm hzs
    rw [ez]
    show (decide (ofF (litM C s) x.2.2 = ofF (litM C s) x.1) || (b == decide (ofF (litM C s) x.2.2 = 1))) = true
    rw [show decide (ofF (litM C s) x.2.2 = ofF (litM C s) x.1) = decide (x.2.2 = x.1) from decide_eq_decide.2 hr.1, show decide (ofF (litM C s) x.2.2 = 1) = decide (x.2.2 = 1) from decide_eq_decide.2 hr.2.1]
    exact h9
  · intro h j z b hj hb
    by_cases hs : s.getD (vOf z.1) false = true
    · obtain ⟨q, hq1, hq2⟩ := sel_place (f := fun z : Tri => z.1) hj hs
      have hr := reset_cut hf (List.mem_of_getElem? hj) hs
      have hbq : t.init[q]? = some b := by
        rw [← hi]
        unfold subB
        rw [List.getElem?_map, hq1]
        simp [List.getD_eq_getElem?_getD, hb]
      have h9 := h q (of3 (litM C s) z) b (by show ((cutL C s).map _)[_]? = _; rw [List.getElem?_map, show (cutL C s)[q]? = some z from hq2]; rfl) hbq
      have h10 : (decide (ofF (litM C s) z.2.2 = ofF (litM C s) z.1) || (b == decide (ofF (litM C s) z.2.2 = 1))) = true := h9
      rw [show decide (ofF (litM C s) z.2.2 = ofF (litM C s) z.1) = decide (z.2.2 = z.1) from decide_eq_decide.2 hr.1, show decide (ofF (litM C s) z.2.2 = 1) = decide (z.2.2 = 1) from decide_eq_decide.2 hr.2.1] at h10
      exact h10
    · have h1 := hout j z hj hs
      have : b = decide (z.2.2 = 1) := by
        rw [← h1]
        simp [List.getD_eq_getElem?_getD, hb]
      rw [this]
      simp
end
end Go.Proofs.Ytilbgopdciiadaa

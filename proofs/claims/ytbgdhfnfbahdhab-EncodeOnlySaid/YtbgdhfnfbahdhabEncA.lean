/- Encode: the contracts of literal, put, formulaOf and Gates. -/
import Derived.Test.YtbgdhfnfbahdhabEncP
import Derived.Test.YtbgdhfnfbahdhabSimQ
import Derived.Test.YtbgdhfnfbahdhabTrnF
namespace Go.Proofs.Ytbgdhfnfbahdhab
open Go.RowKit

theorem i64_in {x : Int} (h : -9223372036854775808 ≤ x ∧ x ≤ 9223372036854775807) : IntKind.i64.wrap x = x := by rw [IntKind.wrap_i64]; omega
set_option maxHeartbeats 400000 in
set_option maxRecDepth 100000 in
theorem literal_any (w : World) (l : Int) (h0 : 0 ≤ l) (h1 : l ≤ 1000000) :
    Calls Try.prog 32 #[.int .i64 l] w fun e w' => e = .returned (.int .i64 (litC l)) ∧ w' = w := by
  have hq := tdiv_nn (b := 2) h0
  have hm : l.tmod 2 = l % 2 := Int.tmod_eq_emod_of_nonneg h0
  have hw : IntKind.i64.wrap (l / 2) = l / 2 := i64_in (by omega)
  have hw1 : IntKind.i64.wrap (l / 2 + 1) = l / 2 + 1 := i64_in (by omega)
  have hw2 : IntKind.i64.wrap (-(l / 2 + 1)) = -(l / 2 + 1) := i64_in (by omega)
  by_cases h2 : l % 2 = 1
  · have e : litC l = -(l / 2 + 1) := if_pos h2
    rw [e]
    clear e
    go_enter Try.func32, Try.ntmps32
    go_wp2
    go_ret
    exact ⟨rfl, rfl⟩
  · have e : litC l = l / 2 + 1 := if_neg h2
    have h3 : l % 2 = 0 := by omega
    rw [e]
    clear e
    go_enter Try.func32, Try.ntmps32
    go_wp2
    go_ret
    exact ⟨rfl, rfl⟩

theorem apV_ofE {w w' : World} {B n n' k k' : Nat} {t t' : TypeId} {u v : Value} {xs ys : List Value} (h : w.ownsRow B t k u n xs) (h2 : w'.ownsRow w.heap.size t' k' v n' ys) : ApV u v := fun g hu hv => by
  have h3 := (h.lt g hu).2
  have h4 := (h2.lt g hv).1
  omega
/-- A list of clauses of the call's own: no two share memory. -/
structure CRow (w : World) (B : Nat) (v : Value) (us : List Value) (F : List (List Int)) : Prop where
  ul : us.length = F.length
  own : w.ownsRow B 51 1 v us.length us
  each : ∀ (i : Nat) (u : Value) (zs : List Int), us[i]? = some u → F[i]? = some zs → w.ownsRow B 3 1 u zs.length (zs.flatMap encI)
  ap : ∀ (i j : Nat) (a b : Value), i < j → us[i]? = some a → us[j]? = some b → ApV a b
theorem CRow.below {w w' : World} {B : Nat} {v : Value} {us : List Value} {F : List (List Int)} (h : CRow w B v us F) (hb : Below w.heap.size w w') : CRow w' B v us F :=
  ⟨h.ul, own_below h.own hb, fun i u zs hu hz => own_below (h.each i u zs hu hz) hb, h.ap⟩
theorem CRow.base {w : World} {B B' : Nat} {v : Value} {us : List Value} {F : List (List Int)} (h : CRow w B v us F) (hB : B' ≤ B) : CRow w B' v us F :=
  ⟨h.ul, own_le h.own hB, fun i u zs hu hz => own_le (h.each i u zs hu hz) hB, h.ap⟩
theorem CRow.lists {w : World} {B : Nat} {v : Value} {us : List Value} {F : List (List Int)} (h : CRow w B v us F) : Lists w v F :=
  ⟨us, own_rowe lenV (by rw [flat_vals]; exact h.own), h.ul, fun i u zs hu hz => own_rowe lenI (h.each i u zs hu hz)⟩
/-- What turns in one block of another kind leaves it. -/
theorem CRow.far {w w' : World} {B g : Nat} {t : TypeId} {cs : Array Value} {v : Value} {us : List Value} {F : List (List Int)} (h : CRow w B v us F) (hg : Blk w g t cs) (h1 : 51 ≠ t) (h2 : 3 ≠ t) (hk : ∀ k, k < w.heap.size → k ≠ g → w'.heap[k]? = w.heap[k]?) : CRow w' B v us F :=
  ⟨h.ul, own_of_block h.own fun k hv => hk k (h.own.lt k hv).2 (fun e => own_blk_ne h.own hg h1 (by rw [← e]; exact hv)),
    fun i u zs hu hz => own_of_block (h.each i u zs hu hz) fun k hv => hk k ((h.each i u zs hu hz).lt k hv).2 (fun e => own_blk_ne (h.each i u zs hu hz) hg h2 (by rw [← e]; exact hv)), h.ap⟩
theorem CRow.snoc {w w1 w2 : World} {B : Nat} {v v2 u : Value} {us : List Value} {F : List (List Int)} {xs : List Int} (h : CRow w B v us F) (hb : Below w.heap.size w w1) (hBw : B ≤ w.heap.size)
    (hu : w1.ownsRow w.heap.size 3 1 u xs.length (xs.flatMap encI)) (hg : w1.grownBy w2 v.ownBlock) (ho : w2.ownsRow B 51 1 v2 (us.length + 1) (us ++ [u])) : CRow w2 B v2 (us ++ [u]) (F ++ [xs]) := by
  have hown1 := own_below h.own hb
  have keep : ∀ {u' : Value} {n : Nat} {ys : List Value}, w1.ownsRow B 3 1 u' n ys → w2.ownsRow B 3 1 u' n ys := fun hh =>
    own_of_block hh fun k hk => hg.block k (hh.lt k hk).2 (fun e => by
      rcases hown1.2 with ⟨hv, _⟩ | ⟨g, cap, cur, hv, _, hgg, _⟩
      · rw [hv] at e; cases e
      · rw [hv] at e
        have e2 : k = g := by simpa [Value.ownBlock] using e
        exact own_blk_ne hh hgg (by decide) (by rw [hk, e2]))
  have hul := h.ul
  refine ⟨by simp; omega, by simpa using ho, fun i u' zs' hu' hz' => ?_, fun i j a b hij ha hb' => ?_⟩
  · by_cases hi : i < us.length
    · rw [List.getElem?_append_left hi] at hu'
      rw [List.getElem?_append_left (by omega)] at hz'
      exact keep (own_below (h.each i u' zs' hu' hz') hb)
    · have : i < (us ++ [u]).length := (List.getElem?_eq_some_iff.1 hu').1
      have hi2 : i = us.length := by simp at this; omega
      subst hi2
      rw [List.getElem?_append_right (by omega), hul, Nat.sub_self] at hz'
      rw [List.getElem?_append_right (by omega), Nat.sub_self] at hu'
      simp at hu' hz'
      subst hu' hz'
      exact keep (own_le hu hBw)
  · have hjl : j < (us ++ [u]).length := (List.getElem?_eq_some_iff.1 hb').1
    rw [List.length_append, List.length_singleton] at hjl
    rw [List.getElem?_append_left (by omega)] at ha
    by_cases hj : j < us.length
    · rw [List.getElem?_append_left hj] at hb'
      exact h.ap i j a b hij ha hb'
    · rw [List.getElem?_append_right (by omega), show j - us.length = 0 by omega] at hb'
      simp at hb'
      subst hb'
      obtain ⟨zs, hz⟩ : ∃ zs, F[i]? = some zs := ⟨_, List.getElem?_eq_getElem (by omega)⟩
      exact apV_ofE (h.each i a zs ha hz) hu

theorem infoCl : (Try.prog.info? 51).map (fun i => (i.zero, i.size, i.bytes)) = some (some (.slice none 0 0), 1, 24) := by kernel_rfl
set_option maxHeartbeats 4000000 in
set_option maxRecDepth 100000 in
theorem put_any (w : World) (B b : Nat) (n : Int) (v lv : Value) (us : List Value) (F : List (List Int)) (xs : List Int) (hb : Blk w b 74 #[.int .i64 n, v]) (hB : B ≤ b) (h : CRow w B v us F) (hl : RowE 1 encI w lv xs) (hF : F.length ≤ 400000) (hx : xs.length ≤ 1000) :
    Calls Try.prog 31 #[.pointer (some ⟨b, 0, none⟩), lv] w fun e w' => e = .returned (.tuple #[]) ∧ Below B w w' ∧ ∃ v' u, Blk w' b 74 #[.int .i64 n, v'] ∧ CRow w' B v' (us ++ [u]) (F ++ [xs]) := by
  obtain ⟨A, c, e⟩ := own_slice_k h.own
  subst e
  have hbl := hb.lt
  have hul := h.ul
  obtain ⟨i0, hi0, hz0, hz1, hz2⟩ := info_of2 infoCl
  have HI0 := Lib.hid (And.intro hi0 (And.intro hz0 (And.intro hz1 hz2)))
  have HCL := Lib.hid (CloneI_any w.drew lv xs (hl.below (Below.refl _ _).drew) (by omega))
  obtain ⟨LA, ln, lc, rfl⟩ := sl_form hl
  have HR := Lib.hid h
  have HBK := Lib.hid hb
  have HBB := Lib.hid (And.intro hB hbl)
  have HUL := Lib.hid hul
  obtain ⟨k, hk⟩ : ∃ k, us.length = k := ⟨_, rfl⟩
  have HK := Lib.hid hk
  have hk4 : k ≤ 400000 := by omega
  rw [hk] at HBK
  have hcell : w.drew.cell? ⟨b, 1, none⟩ = some (.slice A k c) := by
    have := HBK.out.drew.cell 1
    simpa using this
  clear h hb hB hl hF hx hi0 hz0 hz1 hz2 hul hk hbl
  go_enter Try.func31, Try.ntmps31
  refine wp_region_T (by kernel_rfl) (fun w' => w'.cell? ⟨b, 1, none⟩ = some (.slice A k c)) 9 ?_
  have hHeld := hcell
  refine wpAnyT_take (i := 0) (v := ?v0q1) rfl (by kernel_rfl) (fun _ _ _ h => h) (by rfl) hHeld ?h0q1 ?_
  case h0q1 => (intro w' hSw; (try dsimp only at hSw); go_simp; try with_reducible rfl)
  (try simp only [Act.put, List.setIfInBounds_toArray])
  refine wpAnyT_take (i := 1) (v := ?v1q2) rfl (by kernel_rfl) (fun _ _ _ h => h) (by rfl) hHeld ?h1q2 ?_
  case h1q2 => (intro w' hSw; (try dsimp only at hSw); go_simp; try with_reducible rfl)
  (try simp only [Act.put])
  refine wpAnyT_take (i := 2) (v := ?v2q3) rfl (by kernel_rfl) (fun _ _ _ h => h) (by rfl) hHeld ?h2q3 ?_
  case h2q3 => (intro w' hSw; (try dsimp only at hSw); go_simp; try with_reducible rfl)
  (try simp only [Act.put])
  refine wpAnyT_take (i := 3) (v := ?v3q4) rfl (by kernel_rfl) (fun _ _ _ h => h) (by rfl) hHeld ?h3q4 ?_
  case h3q4 => (intro w' hSw; (try dsimp only at hSw); go_simp; try with_reducible rfl)
  (try simp only [Act.put])
  refine wpAnyT_take (i := 4) (v := ?v4q5) rfl (by kernel_rfl) (fun _ _ _ h => h) (by rfl) hHeld ?h4q5 ?_
  case h4q5 => (intro w' hSw; (try dsimp only at hSw); go_simp; try with_reducible rfl)
  (try simp only [Act.put])
  refine wpAnyT_take (i := 5) (v := ?v5q6) rfl (by kernel_rfl) (fun _ _ _ h => h) (by rfl) hHeld ?h5q6 ?_
  case h5q6 => (intro w' hSw; (try dsimp only at hSw); go_simp; try with_reducible rfl)
  (try simp only [Act.put])
  clear hHeld
  refine wpAnyT_one (i := 6) rfl (by kernel_rfl) (fun K hK => ?_)
  go_simp
  go_at_call 45
  refine HCL.out.mono ?_
  rintro e w1 ⟨u, rfl, ho, hb1⟩
  obtain ⟨UA, un, hue⟩ := own_slice_k ho
  have HU := Lib.hid ho
  have HB1 := Lib.hid (bt ((Below.refl w.heap.size w).drew) (Nat.le_refl _) hb1)
  have hc1 : w1.cell? ⟨b, 1, none⟩ = some (.slice A k c) := (hb1.cell (p := ⟨b, 1, none⟩) HBB.out.2).trans hcell
  clear ho hb1 hcell
  subst hue
  refine hK.out _ _ (fun _ => hc1) ?_
  clear hK K
  (try simp only [Act.put, List.setIfInBounds_toArray, List.set_cons_zero, List.set_cons_succ])
  refine wpAnyT_one (i := 7) rfl (by kernel_rfl) (fun K hK => ?_)
  go_simp
  have hc2 : (w1.alloc (.cells #[.slice UA xs.length un] 51)).cell? ⟨b, 1, none⟩ = some (.slice A k c) := by
    rw [World.cell?_alloc_lt w1 _ _ (Nat.lt_of_lt_of_le HBB.out.2 HB1.out.size)]; exact hc1
  refine hK.out _ _ (fun _ => hc2) ?_
  clear hK K
  (try simp only [Act.put, List.setIfInBounds_toArray, List.set_cons_zero, List.set_cons_succ])
  refine wpAnyT_one (i := 8) rfl (by kernel_rfl) (fun K hK => ?_)
  have HOW : Hid ((w1.alloc (.cells #[.slice UA xs.length un] 51)).ownsRow B 51 1 (.slice A k c) k us) := Lib.hid (by
    have := own_below HR.out.own (HB1.out.alloc HB1.out.size (.cells #[.slice UA xs.length un] 51))
    rwa [HK.out] at this)
  refine step_append_any _ rfl (.tmp 8) (.tmp 11) _ rfl B 51 i0 _ 1 24 Try.underlying32 HI0.out.1 HI0.out.2.1 HI0.out.2.2.1 HI0.out.2.2.2 rfl (by omega) (.slice A k c) k us (by first | rfl | (simp [Act.eval])) HOW.out (w1.heap.size + 1) (some ⟨w1.heap.size, 0, none⟩) 1 1 [.slice UA xs.length un] (by first | rfl | (simp [Act.eval])) (reads_one _ _ _) (by simp [Value.oneCell']) (by simp only [maxLen]; omega) (by omega) (by have := HB1.out.size; have := HBB.out; simp; omega) ?_
  intro v5 w5 hown hg _
  obtain ⟨A5, c5, hf5⟩ := own_slice_k hown
  subst hf5
  have HBK5 : Hid (Blk w5 b 74 #[.int .i64 n, .slice A k c]) := Lib.hid (by
    have hb1 := HBK.out.below (HB1.out.alloc HB1.out.size (.cells #[.slice UA xs.length un] 51)) HBB.out.2
    exact Blk.grown hb1 hg (Ne.symm (own_blk_ne HOW.out hb1 (by decide))))
  have HO5 := Lib.hid hown
  have HG5 := Lib.hid hg
  have q5 := HBK5.out.cell 1
  have qf := HBK5.out.frozen 1
  have ql := HBK5.out.lt
  simp only [List.getElem?_toArray, List.getElem?_cons_zero, List.getElem?_cons_succ] at q5
  clear hown hg hc1 hc2
  refine hK.out _ _ (fun _ => q5) ?_
  clear hK K
  (try simp only [Act.put, List.setIfInBounds_toArray])
  refine wpAnyT_one (i := 9) rfl (by kernel_rfl) (fun K hK => ?_)
  go_simp
  refine hK.out _ _ (fun h => absurd h (by decide)) ?_
  clear hK K
  (try simp only [Act.put, List.setIfInBounds_toArray, List.set_cons_zero, List.set_cons_succ])
  refine wpAnyT_one (i := 10) rfl (by kernel_rfl) (fun K hK => ?_)
  go_simp
  refine hK.out _ _ (fun h => absurd h (by decide)) ?_
  clear hK K
  (try simp only [Act.put, List.setIfInBounds_toArray, List.set_cons_zero, List.set_cons_succ])
  refine wpAnyT_one (i := 11) rfl (by kernel_rfl) (fun K hK => ?_)
  go_simp
  refine hK.out _ _ (fun h => absurd h (by decide)) ?_
  clear hK K
  (try simp only [Act.put, List.setIfInBounds_toArray, List.set_cons_zero, List.set_cons_succ])
  refine wpAnyT_done (by kernel_rfl) ?_
  go_wp2
  go_end0
  have hsz := HB1.out.size
  have hbw : B ≤ w.heap.size := by have := HBB.out; omega
  have hal : Below w.heap.size w (w1.alloc (.cells #[.slice UA xs.length un] 51)) := HB1.out.alloc HB1.out.size _
  have hb5 : Below B w w5 := (hal.mono hbw).grown HG5.out (by simp; omega) (fun j hj => (HOW.out.lt j hj).1)
  have hcr := HR.out.snoc (xs := xs) hal hbw (HU.out.alloc _) (by rw [HK.out]; exact HG5.out) (by rw [HK.out]; exact HO5.out)
  rw [HK.out] at *
  refine ⟨rfl, hb5.setCell HBB.out.1 _, _, _, ?_, CRow.far hcr HBK5.out (by decide) (by decide) (fun j _ hj => Below.heap_setCell w5 ⟨b, 1, none⟩ _ j hj)⟩
  have := HBK5.out.set_ 1 (.slice A5 (k + 1) c5)
  simpa using this

theorem varsOf_any (w : World) (V : CV) (m : Nat) (hm : m ≤ 20000) : Calls Try.prog 16 #[V.val m] w fun e w' => e = .returned (.int .i64 ((m : Int) + 1)) ∧ Below w.heap.size w w' := by
  have hb : Below w.heap.size w (w.alloc (.cells (V.cells m) 29)) := (Below.refl _ _).alloc (Nat.le_refl _) _
  have HB := Lib.hid hb
  have hw : IntKind.i64.wrap ((m : Int) + 1) = (m : Int) + 1 := i64_in (by omega)
  obtain ⟨Vi, Vl, Vo, Vb, Vc, Vj, Vf, Va, Vs, Vt⟩ := V
  clear hb
  go_enter Try.func16, Try.ntmps16
  go_wp2
  go_ret
  exact ⟨rfl, HB.out⟩

section
variable {P : Program} {md : Region.Mode} {ops : Array Oper} {Q : Exit → Act → World → Prop} {S : World → Prop} {n : Nat}
theorem wpAnyT_twoE {i j fuel : Nat} {listed : Array Bool} {a : Act} {w : World} (hr : Region.ready md ops listed = [i, j])
    (h1 : wpOp P ops Q i (fun a' w' => (i < n → S w') ∧ wpAnyT P md ops Q S n fuel (listed.setIfInBounds i true) a' w') a w)
    (h2 : wpOp P ops Q j (fun a' w' => (j < n → S w') ∧ wpAnyT P md ops Q S n fuel (listed.setIfInBounds j true) a' w') a w) : wpAnyT P md ops Q S n (fuel + 1) listed a w := by
  refine ⟨fun h0 => (by rw [hr] at h0; cases h0), fun x hx => ?_⟩
  rw [hr] at hx
  simp only [List.mem_cons, List.not_mem_nil, or_false] at hx
  rcases hx with rfl | rfl
  · exact h1
  · exact h2
theorem wpOpE {i fuel : Nat} {o : Oper} {listed : Array Bool} {a : Act} {w : World} (ho : ops[i]? = some o)
    (h : ∀ K' : Act → World → Prop, Shut (∀ a w, (i < n → S w) → wpAnyT P md ops Q S n fuel (listed.setIfInBounds i true) a w → K' a w) → if Region.wanted o (yielded ops a.tmps) = true then Oper.wp P o a w K' Q else K' (a.put o.dst undef) w) :
    wpOp P ops Q i (fun a' w' => (i < n → S w') ∧ wpAnyT P md ops Q S n fuel (listed.setIfInBounds i true) a' w') a w :=
  wpOp_step ho (fun K' hK => h K' (fun a w hS hW => hK a w ⟨hS, hW⟩))
end
theorem results_cell_oneE {fn : Func} {p q : Tmp} {ty : TypeId} {P : Program} (h : fn.results = #[.cell p ty, .tmp q]) (tmps : Array Value) (w : World) (g : Nat) (t : TypeId) (cs : Array Value) (fr : Nat × Nat) (d : TypeDesc)
    (hp : tmps.getD p undef = .pointer (some ⟨g, 0, none⟩)) (hg : w.heap[g]? = some (.cells cs t fr))
    (hu : P.underlying ty = some d) (hd : (match d with | .struct _ | .array _ _ => true | _ => false) = true) (hi : (P.info? ty).map (·.size) = some cs.size) (v : Value) (hv : tmps.getD q undef = v) :
    (results fn tmps).run P w = .ok (.tuple #[.agg cs, v]) w := by
  have hp' : tmps[p]?.getD undef = .pointer (some ⟨g, 0, none⟩) := by simpa using hp
  subst hv
  have hl := run_loadVar_row w g t ty cs fr d hg hu (by cases d <;> first | rfl | exact hd) hi
  simp [results, h, hp', asAddr, hl]
theorem make_clauses (n : Nat) (h : n ≤ 1000000) (wx : World) : (Instr.makeSlice 32 (.int .i64 0) (.int .i64 (n : Int))).run Try.prog wx = .ok (.slice (some ⟨wx.heap.size, 0, none⟩) 0 n) (wx.alloc (.cells (madeCells #[Value.slice none 0 0] n) 51)) := by
  obtain ⟨i0, hi0, hz0, hz1, hz2⟩ := info_of2 infoCl
  have := run_make (P := Try.prog) wx 32 51 i0 (.slice none 0 0) Try.underlying32 hi0 hz0 .i64 .i64 0 n (by omega) (by omega) (by rw [hz2]; omega) (by omega)
  rw [hz1] at this
  simpa [Value.cells] using this
theorem crow_nil {w : World} (B n : Nat) (hB : B ≤ w.heap.size) (hn : n ≤ 1000000) : CRow (w.alloc (.cells (madeCells #[Value.slice none 0 0] n) 51)) B (.slice (some ⟨w.heap.size, 0, none⟩) 0 n) [] [] :=
  ⟨rfl, World.ownsRow_made w _ n hB (by simp only [maxLen]; omega) (by rw [size_madeCells, Nat.mul_one]), fun i u zs hu _ => by simp at hu, fun i j a b _ ha _ => by simp at ha⟩
end Go.Proofs.Ytbgdhfnfbahdhab

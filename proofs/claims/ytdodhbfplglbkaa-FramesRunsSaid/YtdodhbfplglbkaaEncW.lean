/- Encode: the statements' own example: trestlelaw15.works answers true in whatever world. -/
import Derived.Test.YtdodhbfplglbkaaTrnB
import Derived.Test.YtdodhbfplglbkaaSimQ
import Derived.Test.YtdodhbfplglbkaaTrnF
import Derived.Test.YtdodhbfplglbkaaSSteps
namespace Go.Proofs.Ytdodhbfplglbkaa

/-- The formula's literal of a circuit's. -/
def litC (l : Int) : Int := if l % 2 = 1 then -(l / 2 + 1) else l / 2 + 1
def gateC (z : Tri) : List (List Int) := [[-(litC z.1), litC z.2.1], [-(litC z.1), litC z.2.2], [litC z.1, -(litC z.2.1), -(litC z.2.2)]]
def formC (zs : List Tri) : List (List Int) := [-1] :: zs.flatMap gateC
/-- The literals of a formula are in their range. -/
def WfC (n : Nat) (F : List (List Int)) : Prop := ∀ xs ∈ F, xs.length ≤ 3 ∧ ∀ x ∈ xs, x ≠ 0 ∧ x.natAbs ≤ n
theorem litC_in {l : Int} {n : Nat} (h : 0 ≤ l) (h2 : l / 2 < (n : Int)) : litC l ≠ 0 ∧ (litC l).natAbs ≤ n ∧ -(litC l) ≠ 0 ∧ (-(litC l)).natAbs ≤ n := by
  unfold litC; split <;> omega
theorem formC_wf {zs : List Tri} {n : Nat} (hn : 0 < n) (h : ∀ z ∈ zs, (0 ≤ z.1 ∧ z.1 / 2 < (n : Int)) ∧ (0 ≤ z.2.1 ∧ z.2.1 / 2 < (n : Int)) ∧ 0 ≤ z.2.2 ∧ z.2.2 / 2 < (n : Int)) : WfC n (formC zs) := by
  intro xs hx
  unfold formC at hx
  rcases List.mem_cons.1 hx with rfl | hx
  · refine ⟨by simp, fun x hx => ?_⟩
    have : x = -1 := by simpa using hx
    subst this
    exact ⟨by decide, by show 1 ≤ n; omega⟩
  · obtain ⟨z, hz, hm⟩ := List.mem_flatMap.1 hx
    obtain ⟨h1, h2, h3⟩ := h z hz
    obtain ⟨a1, a2, a3, a4⟩ := litC_in h1.1 h1.2
    obtain ⟨b1, b2, b3, b4⟩ := litC_in h2.1 h2.2
    obtain ⟨c1, c2, c3, c4⟩ := litC_in h3.1 h3.2
    simp only [gateC, List.mem_cons, List.not_mem_nil, or_false] at hm
    rcases hm with rfl | rfl | rfl
    all_goals refine ⟨by simp, fun x hx => ?_⟩
    all_goals simp only [List.mem_cons, List.not_mem_nil, or_false] at hx
    · rcases hx with rfl | rfl <;> exact ⟨by assumption, by assumption⟩
    · rcases hx with rfl | rfl <;> exact ⟨by assumption, by assumption⟩
    · rcases hx with rfl | rfl | rfl <;> exact ⟨by assumption, by assumption⟩
theorem formC_len (zs : List Tri) : (formC zs).length = 1 + 3 * zs.length := by
  have key : ∀ ys : List Tri, (ys.flatMap gateC).length = 3 * ys.length := by
    intro ys
    induction ys with
    | nil => rfl
    | cons a r ih => rw [List.flatMap_cons, List.length_append, ih, List.length_cons]; simp only [gateC, List.length_cons, List.length_nil]; omega
  unfold formC
  rw [List.length_cons, key]; omega
theorem formC_snoc (zs : List Tri) (z : Tri) : formC (zs ++ [z]) = formC zs ++ [[-(litC z.1), litC z.2.1], [-(litC z.1), litC z.2.2], [litC z.1, -(litC z.2.1), -(litC z.2.2)]] := by
  unfold formC
  rw [List.flatMap_append]
  simp [gateC]

section
variable {C : Circ} {O : List Int} {st row T M : List Bool}
end
end Go.Proofs.Ytdodhbfplglbkaa

namespace Go.Proofs.Ytdodhbfplglbkaa
open Go.RowKit

theorem i64_in {x : Int} (h : -9223372036854775808 ≤ x ∧ x ≤ 9223372036854775807) : IntKind.i64.wrap x = x := by rw [IntKind.wrap_i64]; omega
set_option maxHeartbeats 400000 in
set_option maxRecDepth 100000 in
theorem literal_any (w : World) (l : Int) (h0 : 0 ≤ l) (h1 : l ≤ 1000000) :
    Calls Try.prog 49 #[.int .i64 l] w fun e w' => e = .returned (.int .i64 (litC l)) ∧ w' = w := by
  have hq := tdiv_nn (b := 2) h0
  have hm : l.tmod 2 = l % 2 := Int.tmod_eq_emod_of_nonneg h0
  have hw : IntKind.i64.wrap (l / 2) = l / 2 := i64_in (by omega)
  have hw1 : IntKind.i64.wrap (l / 2 + 1) = l / 2 + 1 := i64_in (by omega)
  have hw2 : IntKind.i64.wrap (-(l / 2 + 1)) = -(l / 2 + 1) := i64_in (by omega)
  by_cases h2 : l % 2 = 1
  · have e : litC l = -(l / 2 + 1) := if_pos h2
    rw [e]
    clear e
    go_enter Try.func49, Try.ntmps49
    go_wp2
    go_ret
    exact ⟨rfl, rfl⟩
  · have e : litC l = l / 2 + 1 := if_neg h2
    have h3 : l % 2 = 0 := by omega
    rw [e]
    clear e
    go_enter Try.func49, Try.ntmps49
    go_wp2
    go_ret
    exact ⟨rfl, rfl⟩

theorem apV_ofE {w w' : World} {B n n' k k' : Nat} {t t' : TypeId} {u v : Value} {xs ys : List Value} (h : w.ownsRow B t k u n xs) (h2 : w'.ownsRow w.heap.size t' k' v n' ys) : ApV u v := fun g hu hv => by
  have h3 := (h.lt g hu).2
  have h4 := (h2.lt g hv).1
  omega
/-- A list of clauses of the call's own: no two share memory. -/
structure CRow (w : World) (B : Nat) (v : Value) (us : List Value) (F : List (List Int)) : Prop where
  ul : us.length = F.length
  own : w.ownsRow B 81 1 v us.length us
  each : ∀ (i : Nat) (u : Value) (zs : List Int), us[i]? = some u → F[i]? = some zs → w.ownsRow B 3 1 u zs.length (zs.flatMap encI)
  ap : ∀ (i j : Nat) (a b : Value), i < j → us[i]? = some a → us[j]? = some b → ApV a b
theorem CRow.below {w w' : World} {B : Nat} {v : Value} {us : List Value} {F : List (List Int)} (h : CRow w B v us F) (hb : Below w.heap.size w w') : CRow w' B v us F :=
  ⟨h.ul, own_below h.own hb, fun i u zs hu hz => own_below (h.each i u zs hu hz) hb, h.ap⟩
theorem CRow.base {w : World} {B B' : Nat} {v : Value} {us : List Value} {F : List (List Int)} (h : CRow w B v us F) (hB : B' ≤ B) : CRow w B' v us F :=
  ⟨h.ul, own_le h.own hB, fun i u zs hu hz => own_le (h.each i u zs hu hz) hB, h.ap⟩
theorem CRow.lists {w : World} {B : Nat} {v : Value} {us : List Value} {F : List (List Int)} (h : CRow w B v us F) : Lists w v F :=
  ⟨us, own_rowe lenV (by rw [flat_vals]; exact h.own), h.ul, fun i u zs hu hz => own_rowe lenI (h.each i u zs hu hz)⟩
/-- What turns in one block of another kind leaves it. -/
theorem CRow.far {w w' : World} {B g : Nat} {t : TypeId} {cs : Array Value} {v : Value} {us : List Value} {F : List (List Int)} (h : CRow w B v us F) (hg : Blk w g t cs) (h1 : 81 ≠ t) (h2 : 3 ≠ t) (hk : ∀ k, k < w.heap.size → k ≠ g → w'.heap[k]? = w.heap[k]?) : CRow w' B v us F :=
  ⟨h.ul, own_of_block h.own fun k hv => hk k (h.own.lt k hv).2 (fun e => own_blk_ne h.own hg h1 (by rw [← e]; exact hv)),
    fun i u zs hu hz => own_of_block (h.each i u zs hu hz) fun k hv => hk k ((h.each i u zs hu hz).lt k hv).2 (fun e => own_blk_ne (h.each i u zs hu hz) hg h2 (by rw [← e]; exact hv)), h.ap⟩
theorem CRow.snoc {w w1 w2 : World} {B : Nat} {v v2 u : Value} {us : List Value} {F : List (List Int)} {xs : List Int} (h : CRow w B v us F) (hb : Below w.heap.size w w1) (hBw : B ≤ w.heap.size)
    (hu : w1.ownsRow w.heap.size 3 1 u xs.length (xs.flatMap encI)) (hg : w1.grownBy w2 v.ownBlock) (ho : w2.ownsRow B 81 1 v2 (us.length + 1) (us ++ [u])) : CRow w2 B v2 (us ++ [u]) (F ++ [xs]) := by
  have hown1 := own_below h.own hb
  have keep : ∀ {u' : Value} {n : Nat} {ys : List Value}, w1.ownsRow B 3 1 u' n ys → w2.ownsRow B 3 1 u' n ys := fun hh =>
    own_of_block hh fun k hk => hg.block k (hh.lt k hk).2 (fun e => by
      rcases hown1.2 with ⟨hv, _⟩ | ⟨g, cap, cur, hv, _, hgg, _⟩
      · rw [hv] at e; cases e
      · rw [hv] at e
        have e2 : k = g := by simpa [Value.ownBlock] using e
        exact own_blk_ne hh hgg (by decide) (by rw [hk, e2]))
  have hul := h.ul
  refine ⟨by simp; omega, by simpa using ho, fun i u' zs' hu' hz' => ?_, fun i j a b hij ha hb' => ?_⟩
  · by_cases hi : i < us.length
    · rw [List.getElem?_append_left hi] at hu'
      rw [List.getElem?_append_left (by omega)] at hz'
      exact keep (own_below (h.each i u' zs' hu' hz') hb)
    · have : i < (us ++ [u]).length := (List.getElem?_eq_some_iff.1 hu').1
      have hi2 : i = us.length := by simp at this; omega
      subst hi2
      rw [List.getElem?_append_right (by omega), hul, Nat.sub_self] at hz'
      rw [List.getElem?_append_right (by omega), Nat.sub_self] at hu'
      simp at hu' hz'
      subst hu' hz'
      exact keep (own_le hu hBw)
  · have hjl : j < (us ++ [u]).length := (List.getElem?_eq_some_iff.1 hb').1
    rw [List.length_append, List.length_singleton] at hjl
    rw [List.getElem?_append_left (by omega)] at ha
    by_cases hj : j < us.length
    · rw [List.getElem?_append_left hj] at hb'
      exact h.ap i j a b hij ha hb'
    · rw [List.getElem?_append_right (by omega), show j - us.length = 0 by omega] at hb'
      simp at hb'
      subst hb'
      obtain ⟨zs, hz⟩ : ∃ zs, F[i]? = some zs := ⟨_, List.getElem?_eq_getElem (by omega)⟩
      exact apV_ofE (h.each i a zs ha hz) hu

theorem infoCl : (Try.prog.info? 81).map (fun i => (i.zero, i.size, i.bytes)) = some (some (.slice none 0 0), 1, 24) := by kernel_rfl
set_option maxHeartbeats 4000000 in
set_option maxRecDepth 100000 in
theorem put_any (w : World) (B b : Nat) (n : Int) (v lv : Value) (us : List Value) (F : List (List Int)) (xs : List Int) (hb : Blk w b 118 #[.int .i64 n, v]) (hB : B ≤ b) (h : CRow w B v us F) (hl : RowE 1 encI w lv xs) (hF : F.length ≤ 400000) (hx : xs.length ≤ 1000) :
    Calls Try.prog 93 #[.pointer (some ⟨b, 0, none⟩), lv] w fun e w' => e = .returned (.tuple #[]) ∧ Below B w w' ∧ ∃ v' u, Blk w' b 118 #[.int .i64 n, v'] ∧ CRow w' B v' (us ++ [u]) (F ++ [xs]) := by
  obtain ⟨A, c, e⟩ := own_slice_k h.own
  subst e
  have hbl := hb.lt
  have hul := h.ul
  obtain ⟨i0, hi0, hz0, hz1, hz2⟩ := info_of2 infoCl
  have HI0 := Lib.hid (And.intro hi0 (And.intro hz0 (And.intro hz1 hz2)))
  have HCL := Lib.hid (CloneI_any w.drew lv xs (hl.below (Below.refl _ _).drew) (by omega))
  obtain ⟨LA, ln, lc, rfl⟩ := sl_form hl
  have HR := Lib.hid h
  have HBK := Lib.hid hb
  have HBB := Lib.hid (And.intro hB hbl)
  have HUL := Lib.hid hul
  obtain ⟨k, hk⟩ : ∃ k, us.length = k := ⟨_, rfl⟩
  have HK := Lib.hid hk
  have hk4 : k ≤ 400000 := by omega
  rw [hk] at HBK
  have hcell : w.drew.cell? ⟨b, 1, none⟩ = some (.slice A k c) := by
    have := HBK.out.drew.cell 1
    simpa using this
  clear h hb hB hl hF hx hi0 hz0 hz1 hz2 hul hk hbl
  go_enter Try.func93, Try.ntmps93
  refine wp_region_T (by kernel_rfl) (fun w' => w'.cell? ⟨b, 1, none⟩ = some (.slice A k c)) 9 ?_
  have hHeld := hcell
  refine wpAnyT_take (i := 0) (v := ?v0q1) rfl (by kernel_rfl) (fun _ _ _ h => h) (by rfl) hHeld ?h0q1 ?_
  case h0q1 => (intro w' hSw; (try dsimp only at hSw); go_simp; try with_reducible rfl)
  (try simp only [Act.put, List.setIfInBounds_toArray])
  refine wpAnyT_take (i := 1) (v := ?v1q2) rfl (by kernel_rfl) (fun _ _ _ h => h) (by rfl) hHeld ?h1q2 ?_
  case h1q2 => (intro w' hSw; (try dsimp only at hSw); go_simp; try with_reducible rfl)
  (try simp only [Act.put])
  refine wpAnyT_take (i := 2) (v := ?v2q3) rfl (by kernel_rfl) (fun _ _ _ h => h) (by rfl) hHeld ?h2q3 ?_
  case h2q3 => (intro w' hSw; (try dsimp only at hSw); go_simp; try with_reducible rfl)
  (try simp only [Act.put])
  refine wpAnyT_take (i := 3) (v := ?v3q4) rfl (by kernel_rfl) (fun _ _ _ h => h) (by rfl) hHeld ?h3q4 ?_
  case h3q4 => (intro w' hSw; (try dsimp only at hSw); go_simp; try with_reducible rfl)
  (try simp only [Act.put])
  refine wpAnyT_take (i := 4) (v := ?v4q5) rfl (by kernel_rfl) (fun _ _ _ h => h) (by rfl) hHeld ?h4q5 ?_
  case h4q5 => (intro w' hSw; (try dsimp only at hSw); go_simp; try with_reducible rfl)
  (try simp only [Act.put])
  refine wpAnyT_take (i := 5) (v := ?v5q6) rfl (by kernel_rfl) (fun _ _ _ h => h) (by rfl) hHeld ?h5q6 ?_
  case h5q6 => (intro w' hSw; (try dsimp only at hSw); go_simp; try with_reducible rfl)
  (try simp only [Act.put])
  clear hHeld
  refine wpAnyT_one (i := 6) rfl (by kernel_rfl) (fun K hK => ?_)
  go_simp
  go_at_call 131
  refine HCL.out.mono ?_
  rintro e w1 ⟨u, rfl, ho, hb1⟩
  obtain ⟨UA, un, hue⟩ := own_slice_k ho
  have HU := Lib.hid ho
  have HB1 := Lib.hid (bt ((Below.refl w.heap.size w).drew) (Nat.le_refl _) hb1)
  have hc1 : w1.cell? ⟨b, 1, none⟩ = some (.slice A k c) := (hb1.cell (p := ⟨b, 1, none⟩) HBB.out.2).trans hcell
  clear ho hb1 hcell
  subst hue
  refine hK.out _ _ (fun _ => hc1) ?_
  clear hK K
  (try simp only [Act.put, List.setIfInBounds_toArray, List.set_cons_zero, List.set_cons_succ])
  refine wpAnyT_one (i := 7) rfl (by kernel_rfl) (fun K hK => ?_)
  go_simp
  have hc2 : (w1.alloc (.cells #[.slice UA xs.length un] 81)).cell? ⟨b, 1, none⟩ = some (.slice A k c) := by
    rw [World.cell?_alloc_lt w1 _ _ (Nat.lt_of_lt_of_le HBB.out.2 HB1.out.size)]; exact hc1
  refine hK.out _ _ (fun _ => hc2) ?_
  clear hK K
  (try simp only [Act.put, List.setIfInBounds_toArray, List.set_cons_zero, List.set_cons_succ])
  refine wpAnyT_one (i := 8) rfl (by kernel_rfl) (fun K hK => ?_)
  have HOW : Hid ((w1.alloc (.cells #[.slice UA xs.length un] 81)).ownsRow B 81 1 (.slice A k c) k us) := Lib.hid (by
    have := own_below HR.out.own (HB1.out.alloc HB1.out.size (.cells #[.slice UA xs.length un] 81))
    rwa [HK.out] at this)
  refine step_append_any _ rfl (.tmp 8) (.tmp 11) _ rfl B 81 i0 _ 1 24 Try.underlying32 HI0.out.1 HI0.out.2.1 HI0.out.2.2.1 HI0.out.2.2.2 rfl (by omega) (.slice A k c) k us (by first | rfl | (simp [Act.eval])) HOW.out (w1.heap.size + 1) (some ⟨w1.heap.size, 0, none⟩) 1 1 [.slice UA xs.length un] (by first | rfl | (simp [Act.eval])) (reads_one _ _ _) (by simp [Value.oneCell']) (by simp only [maxLen]; omega) (by omega) (by have := HB1.out.size; have := HBB.out; simp; omega) ?_
  intro v5 w5 hown hg _
  obtain ⟨A5, c5, hf5⟩ := own_slice_k hown
  subst hf5
  have HBK5 : Hid (Blk w5 b 118 #[.int .i64 n, .slice A k c]) := Lib.hid (by
    have hb1 := HBK.out.below (HB1.out.alloc HB1.out.size (.cells #[.slice UA xs.length un] 81)) HBB.out.2
    exact Blk.grown hb1 hg (Ne.symm (own_blk_ne HOW.out hb1 (by decide))))
  have HO5 := Lib.hid hown
  have HG5 := Lib.hid hg
  have q5 := HBK5.out.cell 1
  have qf := HBK5.out.frozen 1
  have ql := HBK5.out.lt
  simp only [List.getElem?_toArray, List.getElem?_cons_zero, List.getElem?_cons_succ] at q5
  clear hown hg hc1 hc2
  refine hK.out _ _ (fun _ => q5) ?_
  clear hK K
  (try simp only [Act.put, List.setIfInBounds_toArray])
  refine wpAnyT_one (i := 9) rfl (by kernel_rfl) (fun K hK => ?_)
  go_simp
  refine hK.out _ _ (fun h => absurd h (by decide)) ?_
  clear hK K
  (try simp only [Act.put, List.setIfInBounds_toArray, List.set_cons_zero, List.set_cons_succ])
  refine wpAnyT_one (i := 10) rfl (by kernel_rfl) (fun K hK => ?_)
  go_simp
  refine hK.out _ _ (fun h => absurd h (by decide)) ?_
  clear hK K
  (try simp only [Act.put, List.setIfInBounds_toArray, List.set_cons_zero, List.set_cons_succ])
  refine wpAnyT_one (i := 11) rfl (by kernel_rfl) (fun K hK => ?_)
  go_simp
  refine hK.out _ _ (fun h => absurd h (by decide)) ?_
  clear hK K
  (try simp only [Act.put, List.setIfInBounds_toArray, List.set_cons_zero, List.set_cons_succ])
  refine wpAnyT_done (by kernel_rfl) ?_
  go_wp2
  go_end0
  have hsz := HB1.out.size
  have hbw : B ≤ w.heap.size := by have := HBB.out; omega
  have hal : Below w.heap.size w (w1.alloc (.cells #[.slice UA xs.length un] 81)) := HB1.out.alloc HB1.out.size _
  have hb5 : Below B w w5 := (hal.mono hbw).grown HG5.out (by simp; omega) (fun j hj => (HOW.out.lt j hj).1)
  have hcr := HR.out.snoc (xs := xs) hal hbw (HU.out.alloc _) (by rw [HK.out]; exact HG5.out) (by rw [HK.out]; exact HO5.out)
  rw [HK.out] at *
  refine ⟨rfl, hb5.setCell HBB.out.1 _, _, _, ?_, CRow.far hcr HBK5.out (by decide) (by decide) (fun j _ hj => Below.heap_setCell w5 ⟨b, 1, none⟩ _ j hj)⟩
  have := HBK5.out.set_ 1 (.slice A5 (k + 1) c5)
  simpa using this

theorem varsOf_any (w : World) (V : CV) (m : Nat) (hm : m ≤ 20000) : Calls Try.prog 92 #[V.val m] w fun e w' => e = .returned (.int .i64 ((m : Int) + 1)) ∧ Below w.heap.size w w' := by
  have hb : Below w.heap.size w (w.alloc (.cells (V.cells m) 29)) := (Below.refl _ _).alloc (Nat.le_refl _) _
  have HB := Lib.hid hb
  have hw : IntKind.i64.wrap ((m : Int) + 1) = (m : Int) + 1 := i64_in (by omega)
  obtain ⟨Vi, Vl, Vo, Vb, Vc, Vj, Vf, Va, Vs, Vt⟩ := V
  clear hb
  go_enter Try.func92, Try.ntmps92
  go_wp2
  go_ret
  exact ⟨rfl, HB.out⟩

section
variable {P : Program} {md : Region.Mode} {ops : Array Oper} {Q : Exit → Act → World → Prop} {S : World → Prop} {n : Nat}
theorem wpAnyT_twoE {i j fuel : Nat} {listed : Array Bool} {a : Act} {w : World} (hr : Region.ready md ops listed = [i, j])
    (h1 : wpOp P ops Q i (fun a' w' => (i < n → S w') ∧ wpAnyT P md ops Q S n fuel (listed.setIfInBounds i true) a' w') a w)
    (h2 : wpOp P ops Q j (fun a' w' => (j < n → S w') ∧ wpAnyT P md ops Q S n fuel (listed.setIfInBounds j true) a' w') a w) : wpAnyT P md ops Q S n (fuel + 1) listed a w := by
  refine ⟨fun h0 => (by rw [hr] at h0; cases h0), fun x hx => ?_⟩
  rw [hr] at hx
  simp only [List.mem_cons, List.not_mem_nil, or_false] at hx
  rcases hx with rfl | rfl
  · exact h1
  · exact h2
theorem wpOpE {i fuel : Nat} {o : Oper} {listed : Array Bool} {a : Act} {w : World} (ho : ops[i]? = some o)
    (h : ∀ K' : Act → World → Prop, Shut (∀ a w, (i < n → S w) → wpAnyT P md ops Q S n fuel (listed.setIfInBounds i true) a w → K' a w) → if Region.wanted o (yielded ops a.tmps) = true then Oper.wp P o a w K' Q else K' (a.put o.dst undef) w) :
    wpOp P ops Q i (fun a' w' => (i < n → S w') ∧ wpAnyT P md ops Q S n fuel (listed.setIfInBounds i true) a' w') a w :=
  wpOp_step ho (fun K' hK => h K' (fun a w hS hW => hK a w ⟨hS, hW⟩))
end
theorem results_cell_oneE {fn : Func} {p q : Tmp} {ty : TypeId} {P : Program} (h : fn.results = #[.cell p ty, .tmp q]) (tmps : Array Value) (w : World) (g : Nat) (t : TypeId) (cs : Array Value) (fr : Nat × Nat) (d : TypeDesc)
    (hp : tmps.getD p undef = .pointer (some ⟨g, 0, none⟩)) (hg : w.heap[g]? = some (.cells cs t fr))
    (hu : P.underlying ty = some d) (hd : (match d with | .struct _ | .array _ _ => true | _ => false) = true) (hi : (P.info? ty).map (·.size) = some cs.size) (v : Value) (hv : tmps.getD q undef = v) :
    (results fn tmps).run P w = .ok (.tuple #[.agg cs, v]) w := by
  have hp' : tmps[p]?.getD undef = .pointer (some ⟨g, 0, none⟩) := by simpa using hp
  subst hv
  have hl := run_loadVar_row w g t ty cs fr d hg hu (by cases d <;> first | rfl | exact hd) hi
  simp [results, h, hp', asAddr, hl]
theorem make_clauses (n : Nat) (h : n ≤ 1000000) (wx : World) : (Instr.makeSlice 32 (.int .i64 0) (.int .i64 (n : Int))).run Try.prog wx = .ok (.slice (some ⟨wx.heap.size, 0, none⟩) 0 n) (wx.alloc (.cells (madeCells #[Value.slice none 0 0] n) 81)) := by
  obtain ⟨i0, hi0, hz0, hz1, hz2⟩ := info_of2 infoCl
  have := run_make (P := Try.prog) wx 32 81 i0 (.slice none 0 0) Try.underlying32 hi0 hz0 .i64 .i64 0 n (by omega) (by omega) (by rw [hz2]; omega) (by omega)
  rw [hz1] at this
  simpa [Value.cells] using this
theorem crow_nil {w : World} (B n : Nat) (hB : B ≤ w.heap.size) (hn : n ≤ 1000000) : CRow (w.alloc (.cells (madeCells #[Value.slice none 0 0] n) 81)) B (.slice (some ⟨w.heap.size, 0, none⟩) 0 n) [] [] :=
  ⟨rfl, World.ownsRow_made w _ n hB (by simp only [maxLen]; omega) (by rw [size_madeCells, Nat.mul_one]), fun i u zs hu _ => by simp at hu, fun i j a b _ ha _ => by simp at ha⟩
end Go.Proofs.Ytdodhbfplglbkaa

namespace Go.Proofs.Ytdodhbfplglbkaa
open Go.RowKit

theorem gates_in {C : Circ} {m : Nat} (h0 : (checkR C).2 = 0) (hm : C.max = (m : Int)) : ∀ z ∈ C.ands, (0 ≤ z.1 ∧ z.1 / 2 ≤ (m : Int)) ∧ (0 ≤ z.2.1 ∧ z.2.1 / 2 ≤ (m : Int)) ∧ 0 ≤ z.2.2 ∧ z.2.2 / 2 ≤ (m : Int) := fun z hz => by
  have h1 := (fine_of h0).u.a z hz
  have h2 := (fine_of h0).d.two z.1 (by unfold defsL; exact List.mem_append_right _ (List.mem_map.2 ⟨z, hz, rfl⟩))
  have h3 := h1.1.2.1
  have h4 := h1.2.2.1
  rw [hm] at h2 h3 h4
  exact ⟨⟨by omega, h2.2.2⟩, ⟨h1.1.1, h3⟩, h1.2.1, h4⟩

theorem below_setRowE {B : Nat} {a w : World} {g : Nat} {cs : Array Value} (h : Below B a w) (hg : B ≤ g) : Below B a (w.setRow g cs) :=
  ⟨h.os, h.tape, h.output, by rw [size_setRow]; exact h.size, fun k hk => (setRow_other _ _ _ _ (by omega)).trans (h.block k hk)⟩
section
variable {P : Program} {md : Region.Mode} {ops : Array Oper} {Q : Exit → Act → World → Prop} {S : World → Prop} {n : Nat}
theorem wpAnyT_threeE {i j k fuel : Nat} {listed : Array Bool} {a : Act} {w : World} (hr : Region.ready md ops listed = [i, j, k])
    (h1 : wpOp P ops Q i (fun a' w' => (i < n → S w') ∧ wpAnyT P md ops Q S n fuel (listed.setIfInBounds i true) a' w') a w)
    (h2 : wpOp P ops Q j (fun a' w' => (j < n → S w') ∧ wpAnyT P md ops Q S n fuel (listed.setIfInBounds j true) a' w') a w)
    (h3 : wpOp P ops Q k (fun a' w' => (k < n → S w') ∧ wpAnyT P md ops Q S n fuel (listed.setIfInBounds k true) a' w') a w) : wpAnyT P md ops Q S n (fuel + 1) listed a w := by
  refine ⟨fun h0 => (by rw [hr] at h0; cases h0), fun x hx => ?_⟩
  rw [hr] at hx
  simp only [List.mem_cons, List.not_mem_nil, or_false] at hx
  rcases hx with rfl | rfl | rfl
  · exact h1
  · exact h2
  · exact h3
end
theorem blk_roweE {E : Type} {k : Nat} {enc : E → List Value} {w : World} {g : Nat} {t : TypeId} {zs : List E} (hk : ∀ z, (enc z).length = k) (h : Blk w g t (zs.flatMap enc).toArray) (hm : zs.length ≤ maxLen) : RowE k enc w (.slice (some ⟨g, 0, none⟩) zs.length zs.length) zs :=
  ⟨_, _, rfl, Nat.le_refl _, hm, fun i z hz => ⟨g, 0, rfl, h.lt, fun j u hu => by
    have hj : j < k := by rw [← hk z]; exact (List.getElem?_eq_some_iff.1 hu).1
    rw [Nat.zero_add, h.cell, List.getElem?_toArray, flat_get hk zs i z hz j hj]; exact hu⟩⟩
theorem row_new (W : World) (g : Nat) (h : W.heap.size = g) (xs : List Int) (hx : xs.length ≤ 1000) : RowE 1 encI (W.alloc (.cells (xs.flatMap encI).toArray 3)) (.slice (some ⟨g, 0, none⟩) xs.length xs.length) xs := by
  subst h
  exact blk_roweE lenI (Blk.new W 3 _) (by simp only [maxLen]; omega)
set_option maxHeartbeats 8000000 in
set_option maxRecDepth 100000 in
theorem formulaOf_any (w : World) (V : CV) (m : Nat) (gv : Value) (zs : List Tri) (hm1 : m ≤ 16384) (hg : RowE 3 encT w gv zs) (hn : zs.length ≤ 16384)
    (hz : ∀ z ∈ zs, (0 ≤ z.1 ∧ z.1 / 2 ≤ (m : Int)) ∧ (0 ≤ z.2.1 ∧ z.2.1 / 2 ≤ (m : Int)) ∧ 0 ≤ z.2.2 ∧ z.2.2 / 2 ≤ (m : Int)) :
    Calls Try.prog 45 #[V.val m, gv] w fun e w' => Below w.heap.size w w' ∧ ∃ v us, e = .returned (.agg #[.int .i64 ((m : Int) + 1), v]) ∧ CRow w' w.heap.size v us (formC zs) := by
  obtain ⟨GA, gc, hge, hg1, hg2, hrun⟩ := hg
  subst hge
  obtain ⟨n, hnn⟩ : ∃ n, zs.length = n := ⟨_, rfl⟩
  rw [hnn] at hn hg1 ⊢
  obtain ⟨W0, hW0⟩ : ∃ W0, (w.alloc (.cells (V.cells m) 29)).alloc (.cells #[.int .i64 0, .slice none 0 0] 34) = W0 := ⟨_, rfl⟩
  have HB0 : Hid (Below w.heap.size w W0) := Lib.hid (by rw [← hW0]; exact ((Below.refl w.heap.size w).alloc (Nat.le_refl _) _).alloc (by simp) _)
  have HX0 : Hid (Blk W0 w.heap.size 29 (V.cells m)) := Lib.hid (by rw [← hW0]; exact (Blk.new w _ _).alloc _)
  have H1 : Hid (Blk W0 (w.heap.size + 1) 34 #[.int .i64 0, .slice none 0 0]) := Lib.hid (by
    rw [← hW0]
    have := Blk.new (w.alloc (.cells (V.cells m) 29)) 34 #[.int .i64 0, .slice none 0 0]
    simpa using this)
  have HS0 : Hid (W0.heap.size = w.heap.size + 1 + 1) := Lib.hid (by rw [← hW0]; simp)
  have HVO := Lib.hid (fun wx => varsOf_any wx V m (by omega))
  have HW0 := Lib.hid hW0
  have HRUN := Lib.hid hrun
  have HZ := Lib.hid hz
  have HN := Lib.hid hnn
  have hcap : ∃ cp : Nat, 1 + 3 * (n : Int) = (cp : Int) ∧ cp ≤ 100000 := ⟨1 + 3 * n, by push_cast; rfl, by omega⟩
  obtain ⟨cp, hcp, hcp2⟩ := hcap
  have hw1 : IntKind.i64.wrap (3 * (n : Int)) = 3 * (n : Int) := i64_in (by omega)
  have hw2 : IntKind.i64.wrap (1 + 3 * (n : Int)) = (cp : Int) := by rw [hcp]; exact i64_in (by omega)
  have hmk := make_clauses cp (by omega)
  have hl0 := literal_any W0 0 (by omega) (by omega)
  clear hrun hz hnn hW0 hg1 hg2 hcp hl0
  go_enter Try.func45, Try.ntmps45
  go_upto_region 1 with (fail)
  rw [HW0.out]
  go_cut [5] (fun p wx => ∃ (gf : Nat) (v : Value), p = .pointer (some ⟨gf, 0, none⟩) ∧ Below W0.heap.size W0 wx ∧ W0.heap.size ≤ gf ∧ Blk wx gf 118 #[.int .i64 ((m : Int) + 1), v] ∧ CRow wx W0.heap.size v [] [])
  case first =>
    refine wp_region_T (by kernel_rfl) (fun w' => Blk w' w.heap.size 29 (V.cells m)) 10 ?_
    have hHeld := HX0.out.drew
    refine wpAnyT_take (i := 0) (v := ?v0q1) rfl (by kernel_rfl) (fun _ _ _ h => h) (by rfl) hHeld ?h0q1 ?_
    case h0q1 => (intro w' hSw; (try dsimp only at hSw); obtain ⟨c0, c1, c2, c3, c4, c5, c6, c7, c8, c9, c10⟩ := rbox_of hSw; go_simp; try with_reducible rfl)
    (try simp only [Act.put, List.setIfInBounds_toArray])
    refine wpAnyT_take (i := 2) (v := ?v2q2) rfl (by kernel_rfl) (fun _ _ _ h => h) (by rfl) hHeld ?h2q2 ?_
    case h2q2 => (intro w' hSw; (try dsimp only at hSw); go_simp; try with_reducible rfl)
    (try simp only [Act.put])
    refine wpAnyT_take (i := 3) (v := ?v3q3) rfl (by kernel_rfl) (fun _ _ _ h => h) (by rfl) hHeld ?h3q3 ?_
    case h3q3 => (intro w' hSw; (try dsimp only at hSw); go_simp; try with_reducible rfl)
    (try simp only [Act.put])
    refine wpAnyT_take (i := 4) (v := ?v4q4) rfl (by kernel_rfl) (fun _ _ _ h => h) (by rfl) hHeld ?h4q4 ?_
    case h4q4 => (intro w' hSw; (try dsimp only at hSw); go_simp; try with_reducible rfl)
    (try simp only [Act.put])
    refine wpAnyT_take (i := 5) (v := ?v5q5) rfl (by kernel_rfl) (fun _ _ _ h => h) (by rfl) hHeld ?h5q5 ?_
    case h5q5 => (intro w' hSw; (try dsimp only at hSw); go_simp; try with_reducible rfl)
    (try simp only [Act.put])
    clear hHeld
    have HB : Hid (Below W0.heap.size W0 W0.drew) := Lib.hid (Below.refl _ _).drew
    refine wpAnyT_threeE (i := 1) (j := 6) (k := 8) (by kernel_rfl) ?_ ?_ ?_
    · refine wpOpE (i := 1) rfl (fun K hK => ?_)
      go_simp
      go_at_call 92
      refine (HVO.out _).mono ?_
      rintro e w1 ⟨rfl, hb1⟩
      have HBN := Lib.hid (bt HB.out (Nat.le_refl _) hb1)
      clear hb1
      clear HB
      have HB := HBN
      clear HBN
      refine hK.out _ _ (fun _ => HX0.out.below HB.out HX0.out.lt) ?_
      clear hK K
      (try simp only [Act.put, List.setIfInBounds_toArray, List.set_cons_zero, List.set_cons_succ])
      refine wpAnyT_twoE (i := 6) (j := 8) (by kernel_rfl) ?_ ?_
      · refine wpOpE (i := 6) rfl (fun K hK => ?_)
        go_simp
        obtain ⟨gm, hgm⟩ : ∃ g, w1.heap.size = g := ⟨_, rfl⟩
        obtain ⟨w2, hw⟩ : ∃ x, w1.alloc (.cells (madeCells #[Value.slice none 0 0] cp) 81) = x := ⟨_, rfl⟩
        have HCN : Hid (CRow w2 W0.heap.size (.slice (some ⟨gm, 0, none⟩) 0 cp) [] []) := Lib.hid (by rw [← hw, ← hgm]; exact crow_nil _ _ HB.out.size (by omega))
        have HBN : Hid (Below W0.heap.size W0 w2) := Lib.hid (by rw [← hw]; exact HB.out.alloc HB.out.size _)
        rw [hgm, hw]
        clear hgm hw
        clear HB
        have HB := HBN
        clear HBN
        have HC := HCN
        clear HCN
        refine hK.out _ _ (fun _ => HX0.out.below HB.out HX0.out.lt) ?_
        clear hK K
        (try simp only [Act.put, List.setIfInBounds_toArray, List.set_cons_zero, List.set_cons_succ])
        have hHeld := HX0.out.below HB.out HX0.out.lt
        refine wpAnyT_take (i := 7) (v := ?v7q6) rfl (by kernel_rfl) (fun _ _ _ h => h) (by rfl) hHeld ?h7q6 ?_
        case h7q6 => (intro w' hSw; (try dsimp only at hSw); go_simp; try with_reducible rfl)
        (try simp only [Act.put, List.setIfInBounds_toArray])
        clear hHeld
        refine wpAnyT_one (i := 8) rfl (by kernel_rfl) (fun K hK => ?_)
        go_simp
        obtain ⟨gf, hgf⟩ : ∃ g, w2.heap.size = g := ⟨_, rfl⟩
        obtain ⟨w3, hw⟩ : ∃ x, w2.alloc (.cells #[.int .i64 0, .slice none 0 0] 118) = x := ⟨_, rfl⟩
        have HFN : Hid (W0.heap.size ≤ gf ∧ Blk w3 gf 118 #[.int .i64 0, .slice none 0 0]) := Lib.hid (by rw [← hw, ← hgf]; exact ⟨HB.out.size, Blk.new _ _ _⟩)
        have HBN : Hid (Below W0.heap.size W0 w3) := Lib.hid (by rw [← hw]; exact HB.out.alloc HB.out.size _)
        have HCN : Hid (CRow w3 W0.heap.size (.slice (some ⟨gm, 0, none⟩) 0 cp) [] []) := Lib.hid (by rw [← hw]; exact HC.out.below ((Below.refl _ _).alloc (Nat.le_refl _) _))
        rw [hgf, hw]
        clear hgf hw
        clear HB
        clear HC
        have HB := HBN
        clear HBN
        have HC := HCN
        clear HCN
        have HF := HFN
        clear HFN
        refine hK.out _ _ (fun _ => HX0.out.below HB.out HX0.out.lt) ?_
        clear hK K
        (try simp only [Act.put, List.setIfInBounds_toArray, List.set_cons_zero, List.set_cons_succ])
        refine wpAnyT_one (i := 9) rfl (by kernel_rfl) (fun K hK => ?_)
        rw [if_pos (by rfl)]
        refine wp_store_row 118 (.tmp 5) (.tmp 18) rfl gf #[.int .i64 ((m : Int) + 1), .slice (some ⟨gm, 0, none⟩) 0 cp] rfl rfl 118 _ HF.out.2 (by kernel_rfl) rfl (by simp [Value.oneCell']) ?_
        refine hK.out _ _ (fun _ => (setRow_other _ _ _ _ (by have := HX0.out.lt; have := HF.out.1; omega)).trans (HX0.out.below HB.out HX0.out.lt)) ?_
        clear hK K
        (try simp only [Act.put, List.setIfInBounds_toArray])
        refine wpAnyT_done (by kernel_rfl) ?_
        go_wp2_with fail
        go_meet
        exact ⟨gf, _, rfl, below_setRowE HB.out HF.out.1, HF.out.1, setRow_heap _ _ _ _ _ _ HF.out.2, HC.out.far HF.out.2 (by decide) (by decide) (fun k _ hk => setRow_other _ _ _ _ hk)⟩
      · refine wpOpE (i := 8) rfl (fun K hK => ?_)
        go_simp
        obtain ⟨gf, hgf⟩ : ∃ g, w1.heap.size = g := ⟨_, rfl⟩
        obtain ⟨w4, hw⟩ : ∃ x, w1.alloc (.cells #[.int .i64 0, .slice none 0 0] 118) = x := ⟨_, rfl⟩
        have HFN : Hid (W0.heap.size ≤ gf ∧ Blk w4 gf 118 #[.int .i64 0, .slice none 0 0]) := Lib.hid (by rw [← hw, ← hgf]; exact ⟨HB.out.size, Blk.new _ _ _⟩)
        have HBN : Hid (Below W0.heap.size W0 w4) := Lib.hid (by rw [← hw]; exact HB.out.alloc HB.out.size _)
        rw [hgf, hw]
        clear hgf hw
        clear HB
        have HB := HBN
        clear HBN
        have HF := HFN
        clear HFN
        refine hK.out _ _ (fun _ => HX0.out.below HB.out HX0.out.lt) ?_
        clear hK K
        (try simp only [Act.put, List.setIfInBounds_toArray, List.set_cons_zero, List.set_cons_succ])
        refine wpAnyT_one (i := 6) rfl (by kernel_rfl) (fun K hK => ?_)
        go_simp
        obtain ⟨gm, hgm⟩ : ∃ g, w4.heap.size = g := ⟨_, rfl⟩
        obtain ⟨w5, hw⟩ : ∃ x, w4.alloc (.cells (madeCells #[Value.slice none 0 0] cp) 81) = x := ⟨_, rfl⟩
        have HCN : Hid (CRow w5 W0.heap.size (.slice (some ⟨gm, 0, none⟩) 0 cp) [] []) := Lib.hid (by rw [← hw, ← hgm]; exact crow_nil _ _ HB.out.size (by omega))
        have HBN : Hid (Below W0.heap.size W0 w5) := Lib.hid (by rw [← hw]; exact HB.out.alloc HB.out.size _)
        have HFN : Hid (W0.heap.size ≤ gf ∧ Blk w5 gf 118 #[.int .i64 0, .slice none 0 0]) := Lib.hid (by rw [← hw]; exact ⟨HF.out.1, HF.out.2.alloc _⟩)
        rw [hgm, hw]
        clear hgm hw
        clear HB
        clear HF
        have HB := HBN
        clear HBN
        have HC := HCN
        clear HCN
        have HF := HFN
        clear HFN
        refine hK.out _ _ (fun _ => HX0.out.below HB.out HX0.out.lt) ?_
        clear hK K
        (try simp only [Act.put, List.setIfInBounds_toArray, List.set_cons_zero, List.set_cons_succ])
        refine wpAnyT_one (i := 7) rfl (by kernel_rfl) (fun K hK => ?_)
        go_simp
        refine hK.out _ _ (fun _ => HX0.out.below HB.out HX0.out.lt) ?_
        clear hK K
        (try simp only [Act.put, List.setIfInBounds_toArray, List.set_cons_zero, List.set_cons_succ])
        refine wpAnyT_one (i := 9) rfl (by kernel_rfl) (fun K hK => ?_)
        rw [if_pos (by rfl)]
        refine wp_store_row 118 (.tmp 5) (.tmp 18) rfl gf #[.int .i64 ((m : Int) + 1), .slice (some ⟨gm, 0, none⟩) 0 cp] rfl rfl 118 _ HF.out.2 (by kernel_rfl) rfl (by simp [Value.oneCell']) ?_
        refine hK.out _ _ (fun _ => (setRow_other _ _ _ _ (by have := HX0.out.lt; have := HF.out.1; omega)).trans (HX0.out.below HB.out HX0.out.lt)) ?_
        clear hK K
        (try simp only [Act.put, List.setIfInBounds_toArray])
        refine wpAnyT_done (by kernel_rfl) ?_
        go_wp2_with fail
        go_meet
        exact ⟨gf, _, rfl, below_setRowE HB.out HF.out.1, HF.out.1, setRow_heap _ _ _ _ _ _ HF.out.2, HC.out.far HF.out.2 (by decide) (by decide) (fun k _ hk => setRow_other _ _ _ _ hk)⟩
    · refine wpOpE (i := 6) rfl (fun K hK => ?_)
      go_simp
      obtain ⟨gm, hgm⟩ : ∃ g, W0.heap.size = g := ⟨_, rfl⟩
      obtain ⟨w6, hw⟩ : ∃ x, (W0.alloc (.cells (madeCells #[Value.slice none 0 0] cp) 81)).drew = x := ⟨_, rfl⟩
      have HCN : Hid (CRow w6 W0.heap.size (.slice (some ⟨gm, 0, none⟩) 0 cp) [] []) := Lib.hid (by rw [← hw, ← hgm]; exact (crow_nil _ _ (Nat.le_refl _) (by omega)).below (Below.refl _ _).drew)
      have HBN : Hid (Below W0.heap.size W0 w6) := Lib.hid (by rw [← hw]; exact ((Below.refl _ _).alloc (Nat.le_refl _) _).drew)
      rw [hgm, hw]
      clear hgm hw
      clear HB
      have HB := HBN
      clear HBN
      have HC := HCN
      clear HCN
      refine hK.out _ _ (fun _ => HX0.out.below HB.out HX0.out.lt) ?_
      clear hK K
      (try simp only [Act.put, List.setIfInBounds_toArray, List.set_cons_zero, List.set_cons_succ])
      refine wpAnyT_twoE (i := 1) (j := 8) (by kernel_rfl) ?_ ?_
      · refine wpOpE (i := 1) rfl (fun K hK => ?_)
        go_simp
        go_at_call 92
        refine (HVO.out _).mono ?_
        rintro e w7 ⟨rfl, hb1⟩
        have HBN := Lib.hid (bt HB.out (Nat.le_refl _) hb1)
        have HCN := Lib.hid (HC.out.below hb1)
        clear hb1
        clear HB
        clear HC
        have HB := HBN
        clear HBN
        have HC := HCN
        clear HCN
        refine hK.out _ _ (fun _ => HX0.out.below HB.out HX0.out.lt) ?_
        clear hK K
        (try simp only [Act.put, List.setIfInBounds_toArray, List.set_cons_zero, List.set_cons_succ])
        have hHeld := HX0.out.below HB.out HX0.out.lt
        refine wpAnyT_take (i := 7) (v := ?v7q7) rfl (by kernel_rfl) (fun _ _ _ h => h) (by rfl) hHeld ?h7q7 ?_
        case h7q7 => (intro w' hSw; (try dsimp only at hSw); go_simp; try with_reducible rfl)
        (try simp only [Act.put, List.setIfInBounds_toArray])
        clear hHeld
        refine wpAnyT_one (i := 8) rfl (by kernel_rfl) (fun K hK => ?_)
        go_simp
        obtain ⟨gf, hgf⟩ : ∃ g, w7.heap.size = g := ⟨_, rfl⟩
        obtain ⟨w8, hw⟩ : ∃ x, w7.alloc (.cells #[.int .i64 0, .slice none 0 0] 118) = x := ⟨_, rfl⟩
        have HFN : Hid (W0.heap.size ≤ gf ∧ Blk w8 gf 118 #[.int .i64 0, .slice none 0 0]) := Lib.hid (by rw [← hw, ← hgf]; exact ⟨HB.out.size, Blk.new _ _ _⟩)
        have HBN : Hid (Below W0.heap.size W0 w8) := Lib.hid (by rw [← hw]; exact HB.out.alloc HB.out.size _)
        have HCN : Hid (CRow w8 W0.heap.size (.slice (some ⟨gm, 0, none⟩) 0 cp) [] []) := Lib.hid (by rw [← hw]; exact HC.out.below ((Below.refl _ _).alloc (Nat.le_refl _) _))
        rw [hgf, hw]
        clear hgf hw
        clear HB
        clear HC
        have HB := HBN
        clear HBN
        have HC := HCN
        clear HCN
        have HF := HFN
        clear HFN
        refine hK.out _ _ (fun _ => HX0.out.below HB.out HX0.out.lt) ?_
        clear hK K
        (try simp only [Act.put, List.setIfInBounds_toArray, List.set_cons_zero, List.set_cons_succ])
        refine wpAnyT_one (i := 9) rfl (by kernel_rfl) (fun K hK => ?_)
        rw [if_pos (by rfl)]
        refine wp_store_row 118 (.tmp 5) (.tmp 18) rfl gf #[.int .i64 ((m : Int) + 1), .slice (some ⟨gm, 0, none⟩) 0 cp] rfl rfl 118 _ HF.out.2 (by kernel_rfl) rfl (by simp [Value.oneCell']) ?_
        refine hK.out _ _ (fun _ => (setRow_other _ _ _ _ (by have := HX0.out.lt; have := HF.out.1; omega)).trans (HX0.out.below HB.out HX0.out.lt)) ?_
        clear hK K
        (try simp only [Act.put, List.setIfInBounds_toArray])
        refine wpAnyT_done (by kernel_rfl) ?_
        go_wp2_with fail
        go_meet
        exact ⟨gf, _, rfl, below_setRowE HB.out HF.out.1, HF.out.1, setRow_heap _ _ _ _ _ _ HF.out.2, HC.out.far HF.out.2 (by decide) (by decide) (fun k _ hk => setRow_other _ _ _ _ hk)⟩
      · refine wpOpE (i := 8) rfl (fun K hK => ?_)
        go_simp
        obtain ⟨gf, hgf⟩ : ∃ g, w6.heap.size = g := ⟨_, rfl⟩
        obtain ⟨w9, hw⟩ : ∃ x, w6.alloc (.cells #[.int .i64 0, .slice none 0 0] 118) = x := ⟨_, rfl⟩
        have HFN : Hid (W0.heap.size ≤ gf ∧ Blk w9 gf 118 #[.int .i64 0, .slice none 0 0]) := Lib.hid (by rw [← hw, ← hgf]; exact ⟨HB.out.size, Blk.new _ _ _⟩)
        have HBN : Hid (Below W0.heap.size W0 w9) := Lib.hid (by rw [← hw]; exact HB.out.alloc HB.out.size _)
        have HCN : Hid (CRow w9 W0.heap.size (.slice (some ⟨gm, 0, none⟩) 0 cp) [] []) := Lib.hid (by rw [← hw]; exact HC.out.below ((Below.refl _ _).alloc (Nat.le_refl _) _))
        rw [hgf, hw]
        clear hgf hw
        clear HB
        clear HC
        have HB := HBN
        clear HBN
        have HC := HCN
        clear HCN
        have HF := HFN
        clear HFN
        refine hK.out _ _ (fun _ => HX0.out.below HB.out HX0.out.lt) ?_
        clear hK K
        (try simp only [Act.put, List.setIfInBounds_toArray, List.set_cons_zero, List.set_cons_succ])
        refine wpAnyT_one (i := 1) rfl (by kernel_rfl) (fun K hK => ?_)
        go_simp
        go_at_call 92
        refine (HVO.out _).mono ?_
        rintro e w10 ⟨rfl, hb1⟩
        have HBN := Lib.hid (bt HB.out (Nat.le_refl _) hb1)
        have HCN := Lib.hid (HC.out.below hb1)
        have HFN := Lib.hid (And.intro HF.out.1 (HF.out.2.below hb1 HF.out.2.lt))
        clear hb1
        clear HB
        clear HC
        clear HF
        have HB := HBN
        clear HBN
        have HC := HCN
        clear HCN
        have HF := HFN
        clear HFN
        refine hK.out _ _ (fun _ => HX0.out.below HB.out HX0.out.lt) ?_
        clear hK K
        (try simp only [Act.put, List.setIfInBounds_toArray, List.set_cons_zero, List.set_cons_succ])
        refine wpAnyT_one (i := 7) rfl (by kernel_rfl) (fun K hK => ?_)
        go_simp
        refine hK.out _ _ (fun _ => HX0.out.below HB.out HX0.out.lt) ?_
        clear hK K
        (try simp only [Act.put, List.setIfInBounds_toArray, List.set_cons_zero, List.set_cons_succ])
        refine wpAnyT_one (i := 9) rfl (by kernel_rfl) (fun K hK => ?_)
        rw [if_pos (by rfl)]
        refine wp_store_row 118 (.tmp 5) (.tmp 18) rfl gf #[.int .i64 ((m : Int) + 1), .slice (some ⟨gm, 0, none⟩) 0 cp] rfl rfl 118 _ HF.out.2 (by kernel_rfl) rfl (by simp [Value.oneCell']) ?_
        refine hK.out _ _ (fun _ => (setRow_other _ _ _ _ (by have := HX0.out.lt; have := HF.out.1; omega)).trans (HX0.out.below HB.out HX0.out.lt)) ?_
        clear hK K
        (try simp only [Act.put, List.setIfInBounds_toArray])
        refine wpAnyT_done (by kernel_rfl) ?_
        go_wp2_with fail
        go_meet
        exact ⟨gf, _, rfl, below_setRowE HB.out HF.out.1, HF.out.1, setRow_heap _ _ _ _ _ _ HF.out.2, HC.out.far HF.out.2 (by decide) (by decide) (fun k _ hk => setRow_other _ _ _ _ hk)⟩
    · refine wpOpE (i := 8) rfl (fun K hK => ?_)
      go_simp
      obtain ⟨gf, hgf⟩ : ∃ g, W0.heap.size = g := ⟨_, rfl⟩
      obtain ⟨w11, hw⟩ : ∃ x, (W0.alloc (.cells #[.int .i64 0, .slice none 0 0] 118)).drew = x := ⟨_, rfl⟩
      have HFN : Hid (W0.heap.size ≤ gf ∧ Blk w11 gf 118 #[.int .i64 0, .slice none 0 0]) := Lib.hid (by rw [← hw, ← hgf]; exact ⟨Nat.le_refl _, (Blk.new _ _ _).drew⟩)
      have HBN : Hid (Below W0.heap.size W0 w11) := Lib.hid (by rw [← hw]; exact ((Below.refl _ _).alloc (Nat.le_refl _) _).drew)
      rw [hgf, hw]
      clear hgf hw
      clear HB
      have HB := HBN
      clear HBN
      have HF := HFN
      clear HFN
      refine hK.out _ _ (fun _ => HX0.out.below HB.out HX0.out.lt) ?_
      clear hK K
      (try simp only [Act.put, List.setIfInBounds_toArray, List.set_cons_zero, List.set_cons_succ])
      refine wpAnyT_twoE (i := 1) (j := 6) (by kernel_rfl) ?_ ?_
      · refine wpOpE (i := 1) rfl (fun K hK => ?_)
        go_simp
        go_at_call 92
        refine (HVO.out _).mono ?_
        rintro e w12 ⟨rfl, hb1⟩
        have HBN := Lib.hid (bt HB.out (Nat.le_refl _) hb1)
        have HFN := Lib.hid (And.intro HF.out.1 (HF.out.2.below hb1 HF.out.2.lt))
        clear hb1
        clear HB
        clear HF
        have HB := HBN
        clear HBN
        have HF := HFN
        clear HFN
        refine hK.out _ _ (fun _ => HX0.out.below HB.out HX0.out.lt) ?_
        clear hK K
        (try simp only [Act.put, List.setIfInBounds_toArray, List.set_cons_zero, List.set_cons_succ])
        refine wpAnyT_one (i := 6) rfl (by kernel_rfl) (fun K hK => ?_)
        go_simp
        obtain ⟨gm, hgm⟩ : ∃ g, w12.heap.size = g := ⟨_, rfl⟩
        obtain ⟨w13, hw⟩ : ∃ x, w12.alloc (.cells (madeCells #[Value.slice none 0 0] cp) 81) = x := ⟨_, rfl⟩
        have HCN : Hid (CRow w13 W0.heap.size (.slice (some ⟨gm, 0, none⟩) 0 cp) [] []) := Lib.hid (by rw [← hw, ← hgm]; exact crow_nil _ _ HB.out.size (by omega))
        have HBN : Hid (Below W0.heap.size W0 w13) := Lib.hid (by rw [← hw]; exact HB.out.alloc HB.out.size _)
        have HFN : Hid (W0.heap.size ≤ gf ∧ Blk w13 gf 118 #[.int .i64 0, .slice none 0 0]) := Lib.hid (by rw [← hw]; exact ⟨HF.out.1, HF.out.2.alloc _⟩)
        rw [hgm, hw]
        clear hgm hw
        clear HB
        clear HF
        have HB := HBN
        clear HBN
        have HC := HCN
        clear HCN
        have HF := HFN
        clear HFN
        refine hK.out _ _ (fun _ => HX0.out.below HB.out HX0.out.lt) ?_
        clear hK K
        (try simp only [Act.put, List.setIfInBounds_toArray, List.set_cons_zero, List.set_cons_succ])
        refine wpAnyT_one (i := 7) rfl (by kernel_rfl) (fun K hK => ?_)
        go_simp
        refine hK.out _ _ (fun _ => HX0.out.below HB.out HX0.out.lt) ?_
        clear hK K
        (try simp only [Act.put, List.setIfInBounds_toArray, List.set_cons_zero, List.set_cons_succ])
        refine wpAnyT_one (i := 9) rfl (by kernel_rfl) (fun K hK => ?_)
        rw [if_pos (by rfl)]
        refine wp_store_row 118 (.tmp 5) (.tmp 18) rfl gf #[.int .i64 ((m : Int) + 1), .slice (some ⟨gm, 0, none⟩) 0 cp] rfl rfl 118 _ HF.out.2 (by kernel_rfl) rfl (by simp [Value.oneCell']) ?_
        refine hK.out _ _ (fun _ => (setRow_other _ _ _ _ (by have := HX0.out.lt; have := HF.out.1; omega)).trans (HX0.out.below HB.out HX0.out.lt)) ?_
        clear hK K
        (try simp only [Act.put, List.setIfInBounds_toArray])
        refine wpAnyT_done (by kernel_rfl) ?_
        go_wp2_with fail
        go_meet
        exact ⟨gf, _, rfl, below_setRowE HB.out HF.out.1, HF.out.1, setRow_heap _ _ _ _ _ _ HF.out.2, HC.out.far HF.out.2 (by decide) (by decide) (fun k _ hk => setRow_other _ _ _ _ hk)⟩
      · refine wpOpE (i := 6) rfl (fun K hK => ?_)
        go_simp
        obtain ⟨gm, hgm⟩ : ∃ g, w11.heap.size = g := ⟨_, rfl⟩
        obtain ⟨w14, hw⟩ : ∃ x, w11.alloc (.cells (madeCells #[Value.slice none 0 0] cp) 81) = x := ⟨_, rfl⟩
        have HCN : Hid (CRow w14 W0.heap.size (.slice (some ⟨gm, 0, none⟩) 0 cp) [] []) := Lib.hid (by rw [← hw, ← hgm]; exact crow_nil _ _ HB.out.size (by omega))
        have HBN : Hid (Below W0.heap.size W0 w14) := Lib.hid (by rw [← hw]; exact HB.out.alloc HB.out.size _)
        have HFN : Hid (W0.heap.size ≤ gf ∧ Blk w14 gf 118 #[.int .i64 0, .slice none 0 0]) := Lib.hid (by rw [← hw]; exact ⟨HF.out.1, HF.out.2.alloc _⟩)
        rw [hgm, hw]
        clear hgm hw
        clear HB
        clear HF
        have HB := HBN
        clear HBN
        have HC := HCN
        clear HCN
        have HF := HFN
        clear HFN
        refine hK.out _ _ (fun _ => HX0.out.below HB.out HX0.out.lt) ?_
        clear hK K
        (try simp only [Act.put, List.setIfInBounds_toArray, List.set_cons_zero, List.set_cons_succ])
        refine wpAnyT_one (i := 1) rfl (by kernel_rfl) (fun K hK => ?_)
        go_simp
        go_at_call 92
        refine (HVO.out _).mono ?_
        rintro e w15 ⟨rfl, hb1⟩
        have HBN := Lib.hid (bt HB.out (Nat.le_refl _) hb1)
        have HCN := Lib.hid (HC.out.below hb1)
        have HFN := Lib.hid (And.intro HF.out.1 (HF.out.2.below hb1 HF.out.2.lt))
        clear hb1
        clear HB
        clear HC
        clear HF
        have HB := HBN
        clear HBN
        have HC := HCN
        clear HCN
        have HF := HFN
        clear HFN
        refine hK.out _ _ (fun _ => HX0.out.below HB.out HX0.out.lt) ?_
        clear hK K
        (try simp only [Act.put, List.setIfInBounds_toArray, List.set_cons_zero, List.set_cons_succ])
        refine wpAnyT_one (i := 7) rfl (by kernel_rfl) (fun K hK => ?_)
        go_simp
        refine hK.out _ _ (fun _ => HX0.out.below HB.out HX0.out.lt) ?_
        clear hK K
        (try simp only [Act.put, List.setIfInBounds_toArray, List.set_cons_zero, List.set_cons_succ])
        refine wpAnyT_one (i := 9) rfl (by kernel_rfl) (fun K hK => ?_)
        rw [if_pos (by rfl)]
        refine wp_store_row 118 (.tmp 5) (.tmp 18) rfl gf #[.int .i64 ((m : Int) + 1), .slice (some ⟨gm, 0, none⟩) 0 cp] rfl rfl 118 _ HF.out.2 (by kernel_rfl) rfl (by simp [Value.oneCell']) ?_
        refine hK.out _ _ (fun _ => (setRow_other _ _ _ _ (by have := HX0.out.lt; have := HF.out.1; omega)).trans (HX0.out.below HB.out HX0.out.lt)) ?_
        clear hK K
        (try simp only [Act.put, List.setIfInBounds_toArray])
        refine wpAnyT_done (by kernel_rfl) ?_
        go_wp2_with fail
        go_meet
        exact ⟨gf, _, rfl, below_setRowE HB.out HF.out.1, HF.out.1, setRow_heap _ _ _ _ _ _ HF.out.2, HC.out.far HF.out.2 (by decide) (by decide) (fun k _ hk => setRow_other _ _ _ _ hk)⟩
  case rest =>
    obtain ⟨gf, v, rfl, hb, hgf, hbf, hcr⟩ := hcut
    have HB := Lib.hid hb
    have HGF := Lib.hid hgf
    have HBC := Lib.hid hb
    have HP := Lib.hid (put_any (wc.alloc (.cells #[.int .i64 (-1)] 3)) W0.heap.size gf ((m : Int) + 1) v (.slice (some ⟨wc.heap.size, 0, none⟩) 1 1) [] [] [-1] (hbf.alloc _) hgf (hcr.below ((Below.refl _ _).alloc (Nat.le_refl _) _)) (blk_roweE (zs := [(-1 : Int)]) lenI (Blk.new wc 3 _) (by simp [maxLen])) (by simp) (by simp))
    clear hb hgf hbf hcr
    have hl0 : litC 0 = 1 := by decide
    have hlm : IntKind.i64.wrap (-1) = -1 := by decide
    go_upto_region 3 with (first
      | (go_at_call 49; refine (literal_any _ 0 (by omega) (by omega)).mono ?_; rintro e w2 ⟨rfl, hw2⟩; rw [hw2, hl0]; clear hw2 w2)
      | (go_at_call 93; refine HP.out.mono ?_; rintro e w3 ⟨rfl, hb3, v3, u3, hk3, hc3⟩; have HB3 := Lib.hid hb3; have HK3 := Lib.hid hk3; have HC3 := Lib.hid hc3; clear hb3 hk3 hc3))
    clear HP HB
    have HB3W : Hid (Below W0.heap.size W0 w3) := Lib.hid ((HBC.out.alloc HBC.out.size _).trans HB3.out)
    have HPUT := Lib.hid (fun (wx : World) (v : Value) (us : List Value) (F : List (List Int)) (xs : List Int) (lv : Value) (h1 : Blk wx gf 118 #[.int .i64 ((m : Int) + 1), v]) (h2 : CRow wx W0.heap.size v us F) (h3 : RowE 1 encI wx lv xs) (h4 : F.length ≤ 400000) (h5 : xs.length ≤ 1000) => put_any wx W0.heap.size gf ((m : Int) + 1) v lv us F xs h1 HGF.out h2 h3 h4 h5)
    go_wp2
    go_loopg [25] n (fun k i wx => ∃ (q : Nat) (v : Value) (us : List Value), q ≤ n ∧ k = n - q ∧ i = .int .i64 q ∧ Blk wx gf 118 #[.int .i64 ((m : Int) + 1), v] ∧ CRow wx W0.heap.size v us (formC (zs.take q)) ∧ Below W0.heap.size W0 wx)
    case atStart => exact ⟨0, v3, _, Nat.zero_le _, rfl, rfl, HK3.out, HC3.out, HB3W.out⟩
    case round =>
      obtain ⟨q, v, us, hq, hgk, rfl, hbf, hcr, hbw⟩ := hrel
      subst hgk
      clear HB3 HK3 HC3 HB3W
      have HBF := Lib.hid hbf
      have HCR := Lib.hid hcr
      have HBW := Lib.hid hbw
      clear hbf hcr hbw
      by_cases hlt : q < n
      · obtain ⟨z, hz⟩ : ∃ z, zs[q]? = some z := ⟨_, List.getElem?_eq_getElem (by rw [HN.out]; exact hlt)⟩
        obtain ⟨b, off, e, hb, hcell⟩ := HRUN.out q z hz
        subst e
        have hzr := HZ.out z (List.mem_of_getElem? hz)
        have HTK : Hid (formC (zs.take (q + 1)) = formC (zs.take q) ++ [[-(litC z.1), litC z.2.1], [-(litC z.1), litC z.2.2], [litC z.1, -(litC z.2.1), -(litC z.2.2)]]) := Lib.hid (by rw [List.take_add_one, hz]; exact formC_snoc _ _)
        have HLN : Hid ((formC (zs.take q)).length ≤ 300000) := Lib.hid (by rw [formC_len, List.length_take]; omega)
        obtain ⟨z0, z1, z2⟩ := z
        obtain ⟨⟨hl0, hl1⟩, ⟨hm2, hm3⟩, hm4, hm5⟩ := hzr
        simp only at hl0 hl1 hm2 hm3 hm4 hm5
        have hbl := bt HB0.out (Nat.le_refl _) HBW.out
        have h0 := (hbl.cell (p := ⟨b, off + (q * 3 + 0), none⟩) hb).trans (hcell 0 _ rfl)
        have h1 := (hbl.cell (p := ⟨b, off + (q * 3 + 1), none⟩) hb).trans (hcell 1 _ rfl)
        have h2 := (hbl.cell (p := ⟨b, off + (q * 3 + 2), none⟩) hb).trans (hcell 2 _ rfl)
        simp only [Nat.add_zero, ← Nat.add_assoc] at h0 h1 h2
        have HXA : Hid (Below wr.heap.size wr (wr.alloc (.cells #[.int .i64 z0, .int .i64 z1, .int .i64 z2] 68))) := Lib.hid ((Below.refl _ _).alloc (Nat.le_refl _) _)
        have hnb : Blk (wr.alloc (.cells #[.int .i64 z0, .int .i64 z1, .int .i64 z2] 68)) wr.heap.size 68 #[.int .i64 z0, .int .i64 z1, .int .i64 z2] := Blk.new wr _ _
        have y0 := hnb.cell 0
        have y1 := hnb.cell 1
        have y2 := hnb.cell 2
        simp only [List.getElem?_toArray, List.getElem?_cons_zero, List.getElem?_cons_succ] at y0 y1 y2
        have HC0 := Lib.hid (fun wx => literal_any wx z0 hl0 (by omega))
        have HC1 := Lib.hid (fun wx => literal_any wx z1 hm2 (by omega))
        have HC2 := Lib.hid (fun wx => literal_any wx z2 hm4 (by omega))
        have hw0 : IntKind.i64.wrap (-(litC z0)) = -(litC z0) := i64_in (by unfold litC; split <;> omega)
        have hw1' : IntKind.i64.wrap (-(litC z1)) = -(litC z1) := i64_in (by unfold litC; split <;> omega)
        have hw2' : IntKind.i64.wrap (-(litC z2)) = -(litC z2) := i64_in (by unfold litC; split <;> omega)
        generalize litC z0 = x0 at *
        generalize litC z1 = x1 at *
        generalize litC z2 = x2 at *
        clear hcell hz hbl hnb
        go_upto_region 6 with (fail)
        go_quiet (first | (go_at_call_of 49 z0; exact Calls.quiet_of_same (HC0.out _)) | (go_at_call_of 49 z1; exact Calls.quiet_of_same (HC1.out _)) | (go_at_call_of 49 z2; exact Calls.quiet_of_same (HC2.out _)))
        have HX1 : Hid (∀ wx, Below wr.heap.size wr wx → Blk wx gf 118 #[.int .i64 ((m : Int) + 1), v] ∧ CRow wx W0.heap.size v us (formC (zs.take q))) := Lib.hid (fun wx hx => ⟨HBF.out.below hx HBF.out.lt, HCR.out.below hx⟩)
        have HBQ : Hid (∀ k, Below W0.heap.size W0 ((wr.alloc (.cells #[.int .i64 z0, .int .i64 z1, .int .i64 z2] 68)).drewN k)) := Lib.hid (fun k => below_drewN (HBW.out.alloc HBW.out.size _) k)
        go_upto_region 8 with (go_at_call 93; go_loud (refine (HPUT.out _ v us (formC (zs.take q)) [-x0, x1] _ (HX1.out _ ((below_drewN ((Below.refl _ _).alloc (Nat.le_refl _) _) _).alloc (by simp) _)).1 (HX1.out _ ((below_drewN ((Below.refl _ _).alloc (Nat.le_refl _) _) _).alloc (by simp) _)).2 (row_new _ _ (by simp) [-x0, x1] (by simp)) (by have := HLN.out; omega) (by simp)).mono ?_; rintro e w4 ⟨rfl, hb4, v4, u4, hk4, hc4⟩; have HB4 := Lib.hid (((HBQ.out _).alloc (HBQ.out _).size _).trans hb4); have HK4 := Lib.hid hk4; have HC4 := Lib.hid hc4; clear hb4 hk4 hc4))
        go_upto_region 9 with (go_at_call 93; go_loud (refine (HPUT.out _ v4 _ _ [-x0, x2] _ (HK4.out.alloc _) (HC4.out.below ((Below.refl _ _).alloc (Nat.le_refl _) _)) (row_new _ _ (by first | rfl | simp) [-x0, x2] (by simp)) (by have := HLN.out; rw [List.length_append]; simp; omega) (by simp)).mono ?_; rintro e w5 ⟨rfl, hb5, v5, u5, hk5, hc5⟩; have HB5 := Lib.hid ((HB4.out.alloc HB4.out.size _).trans hb5); have HK5 := Lib.hid hk5; have HC5 := Lib.hid hc5; clear hb5 hk5 hc5 HK4 HC4 HB4))
        go_upto_region 10 with (go_at_call 93; go_loud (refine (HPUT.out _ v5 _ _ [x0, -x1, -x2] _ (HK5.out.alloc _) (HC5.out.below ((Below.refl _ _).alloc (Nat.le_refl _) _)) (row_new _ _ (by first | rfl | simp) [x0, -x1, -x2] (by simp)) (by have := HLN.out; rw [List.length_append, List.length_append]; simp; omega) (by simp)).mono ?_; rintro e w6 ⟨rfl, hb6, v6, u6, hk6, hc6⟩; have HB6 := Lib.hid ((HB5.out.alloc HB5.out.size _).trans hb6); have HK6 := Lib.hid hk6; have HC6 := Lib.hid hc6; clear hb6 hk6 hc6 HK5 HC5 HB5))
        go_wp2
        go_roundg (n - (q + 1))
        case measure => omega
        case rel => exact ⟨q + 1, v6, _, by omega, rfl, by go_num, HK6.out, by rw [HTK.out]; simpa using HC6.out, HB6.out⟩
      · have hqe : n = q := by omega
        subst hqe
        have HFC : Hid (zs.take n = zs) := Lib.hid (List.take_of_length_le (by rw [HN.out]; exact Nat.le_refl _))
        obtain ⟨vA, vc, hve⟩ := own_slice_k HCR.out.own
        subst hve
        have f0 := HBF.out.cell 0
        have f1 := HBF.out.cell 1
        have H1W := Lib.hid (H1.out.below HBW.out H1.out.lt)
        have r0 := H1W.out.cell 0
        have r1 := H1W.out.cell 1
        have rf0 := H1W.out.frozen 0
        have rf1 := H1W.out.frozen 1
        have rl := H1W.out.lt
        simp only [List.getElem?_toArray, List.getElem?_cons_zero, List.getElem?_cons_succ] at f0 f1 r0 r1
        clear hlt hq
        go_wp2
        have hw9 : Blk ((wr.setCell ⟨w.heap.size + 1, 0, none⟩ (.int .i64 ((m : Int) + 1))).setCell ⟨w.heap.size + 1, 1, none⟩ (.slice vA us.length vc)) (w.heap.size + 1) 34 #[.int .i64 ((m : Int) + 1), .slice vA us.length vc] := by
          have := (H1W.out.set_ 0 (.int .i64 ((m : Int) + 1))).set_ 1 (.slice vA us.length vc)
          simpa using this
        refine bodyPost_ret (results_cell_row (fn := Try.f45) rfl _ _ (w.heap.size + 1) 34 #[.int .i64 ((m : Int) + 1), .slice vA us.length vc] (0, 0) _ rfl hw9 Try.underlying34 rfl (by kernel_rfl)) rfl ?_
        have hcr := HCR.out
        rw [HFC.out] at hcr
        refine ⟨((bt HB0.out (Nat.le_refl _) HBW.out).setCell (by simp) _).setCell (by simp) _, _, us, rfl, (hcr.far H1W.out (by decide) (by decide) (fun k _ hk => (Below.heap_setCell _ _ _ _ hk).trans (Below.heap_setCell _ _ _ _ hk))).base HB0.out.size⟩
end Go.Proofs.Ytdodhbfplglbkaa

namespace Go.Proofs.Ytdodhbfplglbkaa
open Go.RowKit

def gatesF (C : Circ) : List (List Int) := if (checkR C).2 = 0 then formC C.ands else []
def varsF (C : Circ) : Int := if (checkR C).2 = 0 then C.max + 1 else 0
theorem crow_none (w : World) (B : Nat) : CRow w B (.slice none 0 0) [] [] :=
  ⟨rfl, World.ownsRow_nil _ _ _ _, fun i u zs hu _ => by simp at hu, fun i j a b _ ha _ => by simp at ha⟩

set_option maxHeartbeats 4000000 in
set_option maxRecDepth 100000 in
theorem Gates_any (w : World) (V : CV) (C : Circ) (h : C.In w V) (ok : C.Ok) :
    Calls Try.prog 11 #[V.val C.max] w fun e w' => Below w.heap.size w w' ∧ ∃ v us, e = .returned (.tuple #[.agg #[.int .i64 (varsF C), v], .int .i64 (checkR C).2]) ∧ CRow w' w.heap.size v us (gatesF C) := by
  obtain ⟨W0, hW0⟩ : ∃ W0, (w.alloc (.cells (V.cells C.max) 29)).alloc (.cells #[.int .i64 0, .slice none 0 0] 34) = W0 := ⟨_, rfl⟩
  have HB0 : Hid (Below w.heap.size w W0) := Lib.hid (by rw [← hW0]; exact ((Below.refl w.heap.size w).alloc (Nat.le_refl _) _).alloc (by simp) _)
  have HX0 : Hid (Blk W0 w.heap.size 29 (V.cells C.max)) := Lib.hid (by rw [← hW0]; exact (Blk.new w _ _).alloc _)
  have H1 : Hid (Blk W0 (w.heap.size + 1) 34 #[.int .i64 0, .slice none 0 0]) := Lib.hid (by
    rw [← hW0]
    have := Blk.new (w.alloc (.cells (V.cells C.max) 29)) 34 #[.int .i64 0, .slice none 0 0]
    simpa using this)
  have HCK := Lib.hid (Check_any W0 V C (h.below HB0.out) ok)
  have HIN := Lib.hid (h.below HB0.out)
  have HW0 := Lib.hid hW0
  have HS0 : Hid (W0.heap.size = w.heap.size + 1 + 1) := Lib.hid (by rw [← hW0]; simp)
  obtain ⟨a, r, hrr⟩ : ∃ a r, checkR C = (a, r) := ⟨_, _, rfl⟩
  have HRR : Hid ((checkR C).2 = r) := Lib.hid (by rw [hrr])
  rw [hrr] at HCK
  have hbx : W0.heap[w.heap.size]? = some (.cells (V.cells C.max) 29 (0, 0)) := HX0.out
  have HBX := Lib.hid hbx
  clear hW0 h ok hbx
  by_cases h0 : r = 0
  · subst h0
    have HF := Lib.hid (formulaOf_any)
    obtain ⟨m, hm⟩ : ∃ m : Nat, C.max = (m : Int) := ⟨C.max.toNat, by have := (right_of HRR.out).m0; omega⟩
    have hm1 : m ≤ 16384 := by have := (right_of HRR.out).m1; omega
    have HZ := Lib.hid (gates_in HRR.out hm)
    have HNA := Lib.hid (right_of HRR.out).na
    have e1 : gatesF C = formC C.ands := if_pos HRR.out
    have e2 : varsF C = (m : Int) + 1 := by unfold varsF; rw [if_pos HRR.out, hm]
    rw [hrr, e1, e2]
    rw [hm] at HX0 HBX HCK HW0 ⊢
    clear e1 e2 hm hrr
    go_enter Try.func11, Try.ntmps11
    go_upto_region 1 with (fail)
    rw [HW0.out]
    go_upto_region 2 with (first
      | (refine wpList_load_row rfl 29 (.tmp 1) rfl w.heap.size rfl 29 (V.cells m) (0, 0) _ HBX.out Try.underlying29 rfl (by kernel_rfl) ?_)
      | (go_at_call 44; refine HCK.out.mono ?_; rintro e w1 ⟨rfl, hb1⟩; have HB1 := Lib.hid hb1; clear hb1))
    have hbx1 : w1.heap[w.heap.size]? = some (.cells (V.cells m) 29 (0, 0)) := HX0.out.below HB1.out HX0.out.lt
    have HBX1 := Lib.hid hbx1
    obtain ⟨AA, ca, ea, _, _, _⟩ := HIN.out.a
    have c8 := (HX0.out.below HB1.out HX0.out.lt).cell 8
    simp only [List.getElem?_toArray, List.getElem?_cons_zero, List.getElem?_cons_succ, CV.cells, ea] at c8
    have HEA := Lib.hid ea
    have HF1 : Hid (Calls Try.prog 45 #[V.val m, .slice AA C.ands.length ca] w1 fun e w' => Below w1.heap.size w1 w' ∧ ∃ v us, e = .returned (.agg #[.int .i64 ((m : Int) + 1), v]) ∧ CRow w' w1.heap.size v us (formC C.ands)) := Lib.hid (by
      have := formulaOf_any w1 V m V.a C.ands hm1 (HIN.out.a.below HB1.out) HNA.out HZ.out
      rwa [HEA.out] at this)
    have HR1 := Lib.hid (H1.out.below HB1.out H1.out.lt)
    clear hbx1 ea HF
    go_wp2_with (first
      | (refine wpList_load_row rfl 29 (.tmp 1) rfl w.heap.size rfl 29 (V.cells m) (0, 0) _ HBX1.out Try.underlying29 rfl (by kernel_rfl) ?_)
      | (go_at_call 45; refine HF1.out.mono ?_; rintro e w2 ⟨hb2, v, us, rfl, hc2⟩; obtain ⟨vA, vc, hve⟩ := own_slice_k hc2.own; subst hve; have HB2 := Lib.hid hb2; have HC2 := Lib.hid hc2; have HR2 := Lib.hid (HR1.out.below hb2 HR1.out.lt); have r0 := HR2.out.cell 0; have r1 := HR2.out.cell 1; have rf0 := HR2.out.frozen 0; have rf1 := HR2.out.frozen 1; have rl := HR2.out.lt; simp only [List.getElem?_toArray, List.getElem?_cons_zero, List.getElem?_cons_succ] at r0 r1; clear hb2 hc2))
    have hw9 : Blk ((w2.setCell ⟨w.heap.size + 1, 0, none⟩ (.int .i64 ((m : Int) + 1))).setCell ⟨w.heap.size + 1, 1, none⟩ (.slice vA us.length vc)) (w.heap.size + 1) 34 #[.int .i64 ((m : Int) + 1), .slice vA us.length vc] := by
      have := (HR2.out.set_ 0 (.int .i64 ((m : Int) + 1))).set_ 1 (.slice vA us.length vc)
      simpa using this
    refine bodyPost_ret (results_cell_oneE (fn := Try.f11) (p := 2) (q := 3) rfl _ _ (w.heap.size + 1) 34 #[.int .i64 ((m : Int) + 1), .slice vA us.length vc] (0, 0) _ rfl hw9 Try.underlying34 rfl (by kernel_rfl) (.int .i64 0) rfl) rfl ?_
    have hbw := bt (bt HB0.out (Nat.le_refl _) HB1.out) (Nat.le_refl _) HB2.out
    exact ⟨(hbw.setCell (by simp) _).setCell (by simp) _, _, us, rfl, (HC2.out.far HR2.out (by decide) (by decide) (fun k _ hk => (Below.heap_setCell _ _ _ _ hk).trans (Below.heap_setCell _ _ _ _ hk))).base (by have := HB0.out.size; have := HB1.out.size; omega)⟩
  · have hq : (r != 0) = true := by simpa using h0
    have e1 : gatesF C = [] := if_neg (by rw [HRR.out]; exact h0)
    have e2 : varsF C = 0 := if_neg (by rw [HRR.out]; exact h0)
    rw [hrr, e1, e2]
    clear e1 e2 hrr h0
    go_enter Try.func11, Try.ntmps11
    go_upto_region 1 with (fail)
    rw [HW0.out]
    go_wp2_with (first
      | (refine wpList_load_row rfl 29 (.tmp 1) rfl w.heap.size rfl 29 (V.cells C.max) (0, 0) _ HBX.out Try.underlying29 rfl (by kernel_rfl) ?_)
      | (go_at_call 44; refine HCK.out.mono ?_; rintro e w1 ⟨rfl, hb1⟩; have HB1 := Lib.hid hb1; have HR1 := Lib.hid (H1.out.below hb1 H1.out.lt); have r0 := HR1.out.cell 0; have r1 := HR1.out.cell 1; have rf0 := HR1.out.frozen 0; have rf1 := HR1.out.frozen 1; have rl := HR1.out.lt; simp only [List.getElem?_toArray, List.getElem?_cons_zero, List.getElem?_cons_succ] at r0 r1; clear hb1))
    have hw9 : Blk ((w1.setCell ⟨w.heap.size + 1, 0, none⟩ (.int .i64 0)).setCell ⟨w.heap.size + 1, 1, none⟩ (.slice none 0 0)) (w.heap.size + 1) 34 #[.int .i64 0, .slice none 0 0] := by
      have := (HR1.out.set_ 0 (.int .i64 0)).set_ 1 (.slice none 0 0)
      simpa using this
    refine bodyPost_ret (results_cell_oneE (fn := Try.f11) (p := 2) (q := 3) rfl _ _ (w.heap.size + 1) 34 #[.int .i64 0, .slice none 0 0] (0, 0) _ rfl hw9 Try.underlying34 rfl (by kernel_rfl) (.int .i64 r) rfl) rfl ?_
    exact ⟨((bt HB0.out (Nat.le_refl _) HB1.out).setCell (by simp) _).setCell (by simp) _, _, [], rfl, crow_none _ _⟩
end Go.Proofs.Ytdodhbfplglbkaa

namespace Go.Proofs.Ytdodhbfplglbkaa
open Go.RowKit

end Go.Proofs.Ytdodhbfplglbkaa

namespace Go.Proofs.Ytdodhbfplglbkaa
open Go.RowKit

end Go.Proofs.Ytdodhbfplglbkaa

namespace Go.Proofs.Ytdodhbfplglbkaa
open Go.RowKit

end Go.Proofs.Ytdodhbfplglbkaa

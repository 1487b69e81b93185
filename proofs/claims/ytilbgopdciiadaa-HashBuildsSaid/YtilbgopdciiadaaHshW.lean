/- Hash: the contract of built: a circuit of new lists out of a builder and a map. -/
import Derived.Test.YtilbgopdciiadaaHshV
import Derived.Test.YtilbgopdciiadaaCopy
import Derived.Test.YtilbgopdciiadaaRenE
import Derived.Test.YtilbgopdciiadaaOrdW
namespace Go.Proofs.Ytilbgopdciiadaa
open Go.RowKit Go.Maps

theorem infoLat : (Try.prog.info? 78).map (fun i => (i.zero, i.size, i.bytes)) = some (some (.agg #[.int .i64 0, .int .i64 0, .int .i64 0]), 3, 24) := by kernel_rfl
theorem make_lats (n : Nat) (h : n ≤ 1000000) (wx : World) : (Instr.makeSlice 23 (.int .i64 (n : Int)) (.int .i64 (n : Int))).run Try.prog wx = .ok (.slice (some ⟨wx.heap.size, 0, none⟩) n n) (wx.alloc (.cells (madeCells #[Value.int .i64 0, Value.int .i64 0, Value.int .i64 0] (n * 3)) 78)) := by
  obtain ⟨i0, hi0, hz0, hz1, hz2⟩ := info_of' infoLat
  have := run_make (P := Try.prog) wx 23 78 i0 (.agg #[.int .i64 0, .int .i64 0, .int .i64 0]) Try.underlying23 hi0 hz0 .i64 .i64 n n (by omega) (by omega) (by rw [hz2]; omega) (by omega)
  rw [hz1] at this
  simpa [Value.cells] using this
theorem made_lats (n : Nat) : madeCells #[Value.int .i64 0, Value.int .i64 0, Value.int .i64 0] (n * 3) = ((List.replicate n ((0, 0, 0) : Tri)).flatMap encT).toArray := by
  have h1 : ∀ m, madeCells #[Value.int .i64 0, Value.int .i64 0, Value.int .i64 0] m = (List.replicate m (Value.int .i64 0)).toArray := fun m => by
    apply Array.toList_inj.1
    apply List.ext_getElem?
    intro j
    by_cases hj : j < m
    · have h2 : j % 3 = 0 ∨ j % 3 = 1 ∨ j % 3 = 2 := by omega
      rcases h2 with h2 | h2 | h2 <;> simp [madeCells, hj, h2]
    · simp [madeCells, hj]
  rw [h1]
  congr 1
  induction n with
  | zero => rfl
  | succ n ih => rw [List.replicate_succ (n := n), List.flatMap_cons, ← ih, Nat.succ_mul, List.replicate_succ, List.replicate_succ, List.replicate_succ]; rfl
theorem flat_len3 (n : Nat) : ((List.replicate n ((0, 0, 0) : Tri)).flatMap encT).length = n * 3 := by
  induction n with
  | zero => rfl
  | succ n ih => rw [List.replicate_succ, List.flatMap_cons, List.length_append, ih]; show 3 + n * 3 = _; omega
theorem own_lats (w : World) (n : Nat) (h : n ≤ 1000000) : (w.alloc (.cells (madeCells #[Value.int .i64 0, Value.int .i64 0, Value.int .i64 0] (n * 3)) 78)).ownsRow w.heap.size 78 3 (.slice (some ⟨w.heap.size, 0, none⟩) n n) (List.replicate n ((0, 0, 0) : Tri)).length ((List.replicate n ((0, 0, 0) : Tri)).flatMap encT) := by
  rw [made_lats, List.length_replicate]
  exact ⟨flat_len3 n, .inr ⟨w.heap.size, n, _, rfl, Nat.le_refl _, Blk.new _ _ _, Nat.le_refl _, by simp [maxLen]; omega, by simp, by rw [List.take_of_length_le (by simp)]⟩⟩
theorem own_lists (w : World) (n : Nat) (h : n ≤ 1000000) : (w.alloc (.cells (madeCells #[Value.slice none 0 0] n) 22)).ownsRow w.heap.size 22 1 (.slice (some ⟨w.heap.size, 0, none⟩) n n) (List.replicate n (Value.slice none 0 0)).length ((List.replicate n (Value.slice none 0 0)).flatMap encV) := by
  rw [made_rows, flat_vals, List.length_replicate]
  exact ⟨by simp, .inr ⟨w.heap.size, n, _, rfl, Nat.le_refl _, Blk.new _ _ _, Nat.le_refl _, by simp [maxLen]; omega, by simp, by rw [List.take_of_length_le (by simp)]⟩⟩
theorem all_own {w' : World} {B g2 : Nat} {Ls M : List Int} (h : Nums w' g2 (Ls.map (mvX M))) (hB : B ≤ g2) (hl : Ls.length ≤ 16384) : w'.ownsRow B 3 1 (.slice (some ⟨g2, 0, none⟩) Ls.length Ls.length) (Ls.map (mvX M)).length ((Ls.map (mvX M)).flatMap encI) := by
  have := nums_own h hB (by simp [maxLen]; omega)
  rw [flat_ints]
  simpa using this
/-- What is built, but for its latches and its justice. -/
def blt1 (C : Circ) (b : Bd) (M : List Int) : Circ := { bldC C b M with latches := List.replicate C.latches.length (0, 0, 0) }
def callH (j : Nat) : Bool := j == 5 || j == 13 || j == 17 || j == 21 || j == 29
def bltVals (B bx cb : Nat) (mx : Int) (MV : Value) (V : CV) (nL nJ : Nat) (X : Circ) (vs : List Value) : List (Value → World → Prop) := [
  cst (.pointer (some ⟨bx, 0, none⟩)),
  cst (.int .i64 mx),
  cst MV,
  cst (.pointer (some ⟨cb, 1, none⟩)),
  cst V.i,
  fun v w => w.ownsRow B 3 1 v X.inputs.length (X.inputs.flatMap encI),
  cst (.pointer (some ⟨cb, 2, none⟩)),
  cst V.l,
  cst (.int .i64 (nL : Int)),
  fun v w => w.ownsRow B 78 3 v X.latches.length (X.latches.flatMap encT),
  cst MV,
  cst (.pointer (some ⟨cb, 3, none⟩)),
  cst V.o,
  fun v w => w.ownsRow B 3 1 v X.outputs.length (X.outputs.flatMap encI),
  cst MV,
  cst (.pointer (some ⟨cb, 4, none⟩)),
  cst V.b,
  fun v w => w.ownsRow B 3 1 v X.bads.length (X.bads.flatMap encI),
  cst MV,
  cst (.pointer (some ⟨cb, 5, none⟩)),
  cst V.c,
  fun v w => w.ownsRow B 3 1 v X.constraints.length (X.constraints.flatMap encI),
  cst (.pointer (some ⟨cb, 6, none⟩)),
  cst V.j,
  cst (.int .i64 (nJ : Int)),
  fun v w => w.ownsRow B 22 1 v vs.length (vs.flatMap encV),
  cst MV,
  cst (.pointer (some ⟨cb, 7, none⟩)),
  cst V.f,
  fun v w => w.ownsRow B 3 1 v X.fairness.length (X.fairness.flatMap encI),
  cst (.pointer (some ⟨bx, 0, none⟩)),
  fun v w => w.ownsRow B 80 3 v X.ands.length (X.ands.flatMap encT),
  cst (.pointer (some ⟨cb, 9, none⟩)),
  cst V.s,
  fun v w => w.ownsRow B 97 3 v X.symbols.length (X.symbols.flatMap encS),
  cst (.pointer (some ⟨cb, 10, none⟩)),
  cst V.t,
  fun v w => w.ownsRow B 9 1 v X.comments.length (X.comments.flatMap encB),
  fun v w => ∃ V' : CV, v = V'.val mx ∧ CopR w B X vs V',
  fun v w => ∃ b, v = .pointer (some ⟨b, 0, none⟩) ∧ B + 2 ≤ b ∧ Blk w b 29 #[.int .i64 0, .slice none 0 0, .slice none 0 0, .slice none 0 0, .slice none 0 0, .slice none 0 0, .slice none 0 0, .slice none 0 0, .slice none 0 0, .slice none 0 0, .slice none 0 0]]
def freshH (i : Nat) (v : Value) (w : World) : Prop := callH i = true → ∀ g, v.ownBlock = some g → w.heap.size ≤ g
def sepH (j : Nat) (u : Value) (i : Nat) (v : Value) : Prop := callH j = true → callH i = true → ∀ g, u.ownBlock = some g → v.ownBlock ≠ some g
section
variable {B bx cb : Nat} {mx : Int} {MV : Value} {V : CV} {nL nJ : Nat} {X : Circ} {vs : List Value}
theorem blt_own {j : Nat} {u : Value} {w : World} (hj : callH j = true) (h : valL (bltVals B bx cb mx MV V nL nJ X vs) j u w) : ∀ g, u.ownBlock = some g → g < w.heap.size := by
  intro g hg
  have : j = 5 ∨ j = 13 ∨ j = 17 ∨ j = 21 ∨ j = 29 := by
    simp only [callH, Bool.or_eq_true, beq_iff_eq] at hj
    omega
  rcases this with rfl | rfl | rfl | rfl | rfl
  · exact (World.ownsRow.lt (show w.ownsRow B 3 1 u X.inputs.length (X.inputs.flatMap encI) from h) g hg).2
  · exact (World.ownsRow.lt (show w.ownsRow B 3 1 u X.outputs.length (X.outputs.flatMap encI) from h) g hg).2
  · exact (World.ownsRow.lt (show w.ownsRow B 3 1 u X.bads.length (X.bads.flatMap encI) from h) g hg).2
  · exact (World.ownsRow.lt (show w.ownsRow B 3 1 u X.constraints.length (X.constraints.flatMap encI) from h) g hg).2
  · exact (World.ownsRow.lt (show w.ownsRow B 3 1 u X.fairness.length (X.fairness.flatMap encI) from h) g hg).2
theorem blt_sep : ∀ (j : Nat) (u : Value) (i : Nat) (v : Value) (w : World), j ≠ i → valL (bltVals B bx cb mx MV V nL nJ X vs) j u w → freshH i v w → sepH j u i v ∧ sepH i v j u := by
  intro j u i v w _ hu hv
  refine ⟨fun hj hi g hg hg' => ?_, fun hi hj g hg hg' => ?_⟩
  · have h1 := blt_own hj hu g hg
    have h2 := hv hi g hg'
    omega
  · have h1 := blt_own hj hu g hg'
    have h2 := hv hi g hg
    omega
theorem blt_keep : ∀ i v w1 w2, Below (World.heap w1).size w1 w2 → valL (bltVals B bx cb mx MV V nL nJ X vs) i v w1 → valL (bltVals B bx cb mx MV V nL nJ X vs) i v w2 := by
  refine valL_keep (G := fun w1 w2 => Below (World.heap w1).size w1 w2) _ (fun p hp => ?_)
  simp only [bltVals, List.mem_cons, List.not_mem_nil, or_false] at hp
  rcases hp with rfl | rfl | rfl | rfl | rfl | rfl | rfl | rfl | rfl | rfl | rfl | rfl | rfl | rfl | rfl | rfl | rfl | rfl | rfl | rfl | rfl | rfl | rfl | rfl | rfl | rfl | rfl | rfl | rfl | rfl | rfl | rfl | rfl | rfl | rfl | rfl | rfl | rfl | rfl | rfl
  · exact cst_stab _
  · exact cst_stab _
  · exact cst_stab _
  · exact cst_stab _
  · exact cst_stab _
  · exact fun v w w' hb h => own_below h hb
  · exact cst_stab _
  · exact cst_stab _
  · exact cst_stab _
  · exact fun v w w' hb h => own_below h hb
  · exact cst_stab _
  · exact cst_stab _
  · exact cst_stab _
  · exact fun v w w' hb h => own_below h hb
  · exact cst_stab _
  · exact cst_stab _
  · exact cst_stab _
  · exact fun v w w' hb h => own_below h hb
  · exact cst_stab _
  · exact cst_stab _
  · exact cst_stab _
  · exact fun v w w' hb h => own_below h hb
  · exact cst_stab _
  · exact cst_stab _
  · exact cst_stab _
  · exact fun v w w' hb h => own_below h hb
  · exact cst_stab _
  · exact cst_stab _
  · exact cst_stab _
  · exact fun v w w' hb h => own_below h hb
  · exact cst_stab _
  · exact fun v w w' hb h => own_below h hb
  · exact cst_stab _
  · exact cst_stab _
  · exact fun v w w' hb h => own_below h hb
  · exact cst_stab _
  · exact cst_stab _
  · exact fun v w w' hb h => own_below h hb
  · rintro v w w' hb ⟨V', e, h⟩; exact ⟨V', e, h.below hb⟩
  · rintro v w w' hb ⟨b, e, h1, h2⟩; exact ⟨b, e, h1, h2.below hb h2.lt⟩
end
theorem fillH_len {α : Type} {N : List α} {k q : Nat} {d : α} (hN : N.length = k) (hq : q ≤ k) : (N.take q ++ List.replicate (k - q) d).length = k := by simp; omega
theorem fillH_set {α : Type} {N : List α} {k q : Nat} {z d : α} (hN : N.length = k) (hz : N[q]? = some z) : (N.take q ++ List.replicate (k - q) d).set q z = N.take (q + 1) ++ List.replicate (k - (q + 1)) d := by
  have hq : q < N.length := (List.getElem?_eq_some_iff.1 hz).1
  rw [List.take_add_one, hz, List.set_append_right _ _ (by simp; omega), show k - q = (k - (q + 1)) + 1 by omega, List.replicate_succ, List.length_take, Nat.min_eq_left (by omega), Nat.sub_self, List.set_cons_zero]
  simp
theorem fillH_get {α : Type} {N : List α} {k q : Nat} {d : α} (hN : N.length = k) (hq : q < k) : (N.take q ++ List.replicate (k - q) d)[q]? = some d := by
  rw [List.getElem?_append_right (by simp; omega), List.length_take, Nat.min_eq_left (by omega), Nat.sub_self, List.getElem?_replicate, if_pos (by omega)]
/-- What stands while the latches and the justice of what is built are filled in. -/
structure BL (w wx : World) (bb : Nat) (mx : Int) (CS : Array Value) (V : CV) (X : Circ) (ls : List Tri) (zs : List Value) (R : List (Value × List Int)) : Prop where
  below : Below w.heap.size w wx
  hbb : w.heap.size + 2 ≤ bb
  cbx : Blk wx w.heap.size 29 CS
  box : Blk wx bb 29 (V.cells mx)
  res : Blk wx (w.heap.size + 1) 29 #[.int .i64 0, .slice none 0 0, .slice none 0 0, .slice none 0 0, .slice none 0 0, .slice none 0 0, .slice none 0 0, .slice none 0 0, .slice none 0 0, .slice none 0 0, .slice none 0 0]
  fam : Fam wx w.heap.size R
  j : wx.ownsRow w.heap.size 22 1 V.j zs.length zs
  l : wx.ownsRow w.heap.size 78 3 V.l ls.length (ls.flatMap encT)
  a : wx.ownsRow w.heap.size 80 3 V.a X.ands.length (X.ands.flatMap encT)
  s : wx.ownsRow w.heap.size 97 3 V.s X.symbols.length (X.symbols.flatMap encS)
  t : wx.ownsRow w.heap.size 9 1 V.t X.comments.length (X.comments.flatMap encB)
section
variable {w wx w5 : World} {bb : Nat} {mx : Int} {CS : Array Value} {V : CV} {X : Circ} {ls : List Tri} {zs : List Value} {R : List (Value × List Int)}
theorem BL.on (h : BL w wx bb mx CS V X ls zs R) (hb : Below wx.heap.size wx w5) : BL w w5 bb mx CS V X ls zs R :=
  ⟨bt h.below (Nat.le_refl _) hb, h.hbb, h.cbx.below hb h.cbx.lt, h.box.below hb h.box.lt, h.res.below hb h.res.lt, ⟨fun p hp => own_below (h.fam.own p hp) hb, h.fam.apart⟩, own_below h.j hb, own_below h.l hb, own_below h.a hb, own_below h.s hb, own_below h.t hb⟩
theorem BL.lat (h : BL w wx bb mx CS V X ls zs R) {g N cap q : Nat} (hV : V.l = .slice (some ⟨g, 0, none⟩) N cap) (hq : q < ls.length) (z : Tri) :
    BL w (((wx.setCell ⟨g, q * 3, none⟩ (.int .i64 z.1)).setCell ⟨g, q * 3 + 1, none⟩ (.int .i64 z.2.1)).setCell ⟨g, q * 3 + 2, none⟩ (.int .i64 z.2.2)) bb mx CS V X (ls.set q z) zs R := by
  obtain ⟨g', cap', hv, hB, _, ⟨cs, hblk⟩, _, _, hset⟩ := own_cells3 h.l (by omega)
  rw [hV] at hv
  injection hv with e1 e2 e3
  injection e1 with e1
  injection e1 with e1
  subst e1
  have hoth : ∀ k, k ≠ g → (((wx.setCell ⟨g, q * 3, none⟩ (.int .i64 z.1)).setCell ⟨g, q * 3 + 1, none⟩ (.int .i64 z.2.1)).setCell ⟨g, q * 3 + 2, none⟩ (.int .i64 z.2.2)).heap[k]? = wx.heap[k]? := fun k hk =>
    (Below.heap_setCell _ _ _ _ hk).trans ((Below.heap_setCell _ _ _ _ hk).trans (Below.heap_setCell _ _ _ _ hk))
  have hk2 : ∀ {t : TypeId} {k' n B : Nat} {v : Value} {xs : List Value}, wx.ownsRow B t k' v n xs → t ≠ 78 → (((wx.setCell ⟨g, q * 3, none⟩ (.int .i64 z.1)).setCell ⟨g, q * 3 + 1, none⟩ (.int .i64 z.2.1)).setCell ⟨g, q * 3 + 2, none⟩ (.int .i64 z.2.2)).ownsRow B t k' v n xs := fun ho ht =>
    own_of_block ho fun g2 hg2 => hoth _ (fun e => own_blk_ne ho hblk ht (by rw [hg2, e]))
  refine ⟨((h.below.setCell (by simp; omega) _).setCell (by simp; omega) _).setCell (by simp; omega) _, h.hbb, (hoth _ (fun e => h.cbx.ne_ hblk (by decide) e)).trans h.cbx, (hoth _ (fun e => h.box.ne_ hblk (by decide) e)).trans h.box, (hoth _ (fun e => h.res.ne_ hblk (by decide) e)).trans h.res, ⟨fun p hp => hk2 (h.fam.own p hp) (by decide), h.fam.apart⟩, hk2 h.j (by decide), ?_, hk2 h.a (by decide), hk2 h.s (by decide), hk2 h.t (by decide)⟩
  rw [List.length_set]
  exact hset q hq z
theorem BL.jus (h : BL w wx bb mx CS V X ls zs R) {g N cap q : Nat} {v' : Value} {js : List Int} (hV : V.j = .slice (some ⟨g, 0, none⟩) N cap) (hq : q < zs.length) (hbel : Below wx.heap.size wx w5) (ho : w5.ownsRow wx.heap.size 3 1 v' js.length (js.map (Value.int .i64))) :
    BL w (w5.setCell ⟨g, q, none⟩ v') bb mx CS V X ls (zs.set q v') (R ++ [(v', js)]) := by
  have h5 := h.on hbel
  obtain ⟨g', cap', hv, hB, _, _, _, _, hset⟩ := own_cells_v h5.j (by omega)
  rw [hV] at hv
  injection hv with e1 e2 e3
  injection e1 with e1
  injection e1 with e1
  subst e1
  have hblk : ∃ cs, Blk w5 g 22 cs := by
    rcases h5.j.2 with ⟨_, h0⟩ | ⟨g', cap2, cur, hv', _, hh, _⟩
    · omega
    · rw [hV] at hv'
      injection hv' with e1
      injection e1 with e1
      injection e1 with e1
      subst e1
      exact ⟨cur, hh⟩
  obtain ⟨cs, hblk⟩ := hblk
  have hk2 : ∀ {t : TypeId} {k' n B : Nat} {v : Value} {xs : List Value}, w5.ownsRow B t k' v n xs → t ≠ 22 → (w5.setCell ⟨g, q, none⟩ v').ownsRow B t k' v n xs := fun ho ht =>
    own_of_block ho fun g2 hg2 => Below.heap_setCell _ _ _ _ (fun e => own_blk_ne ho hblk ht (by rw [hg2, e]))
  have hf := h.fam.snoc hbel h.below.size ho
  refine ⟨h5.below.setCell hB _, h.hbb, Blk.far h5.cbx (fun e => h5.cbx.ne_ hblk (by decide) e) _, Blk.far h5.box (fun e => h5.box.ne_ hblk (by decide) e) _, Blk.far h5.res (fun e => h5.res.ne_ hblk (by decide) e) _, ⟨fun p hp => hk2 (hf.own p hp) (by decide), hf.apart⟩, ?_, hk2 h5.l (by decide), hk2 h5.a (by decide), hk2 h5.s (by decide), hk2 h5.t (by decide)⟩
  rw [List.length_set]
  exact hset q hq v'
end
set_option maxHeartbeats 4000000 in
set_option maxRecDepth 100000 in
theorem built_any (w : World) (bx : Nat) (b : Bd) (F : Nat → Prop) (V : CV) (C : Circ) (g n : Nat) (M : List Int) (hb : HB w bx b F) (h : C.In w V) (hr : Right C) (hjs : ∀ zs ∈ C.justice, zs.length ≤ 16384) (hrm : C.Room) (hM : Nums w g M) (hMl : M.length = n) (hn : n = C.max.toNat + 1) (hk : MapOk M) :
    Calls Try.prog 38 #[.pointer (some ⟨bx, 0, none⟩), V.val C.max, .slice (some ⟨g, 0, none⟩) n n] w fun e w' => ∃ V' us, e = .returned (CV.val V' (b.last : Int)) ∧ Below w.heap.size w w' ∧ Cop w' w.heap.size V' us (bldC C b M) := by
  obtain ⟨nL, hnL⟩ : ∃ k, C.latches.length = k := ⟨_, rfl⟩
  obtain ⟨nJ, hnJ⟩ : ∃ k, C.justice.length = k := ⟨_, rfl⟩
  obtain ⟨mx, hmx⟩ : ∃ k : Int, (b.last : Int) = k := ⟨_, rfl⟩
  obtain ⟨X, hX⟩ : ∃ X, blt1 C b M = X := ⟨_, rfl⟩
  obtain ⟨vs, hvs⟩ : ∃ vs, List.replicate nJ (Value.slice none 0 0) = vs := ⟨_, rfl⟩
  obtain ⟨MV, hMV⟩ : ∃ v, Value.slice (some ⟨g, 0, none⟩) n n = v := ⟨_, rfl⟩
  obtain ⟨AL, cL, hvl, _⟩ := h.l
  obtain ⟨vj, hj1, hj2, hj3⟩ := h.j
  obtain ⟨AJ, cJ, hvj, _⟩ := hj1
  rw [hnL] at hvl
  rw [hj2, hnJ] at hvj
  have hlit : ∀ (Ls : List Int), (∀ l ∈ Ls, LitOk C l) → ∀ l ∈ Ls, 0 ≤ l ∧ l / 2 < (n : Int) := fun Ls hL l hl => by
    have := hL l hl
    unfold LitOk at this
    have := hr.m0
    omega
  have hn1 : n ≤ 1000000 := by have := hr.m1; omega
  rw [hmx, hMV]
  go_enter Try.func38, Try.ntmps38
  go_wp2
  refine region_lit ?_
  intro ops hops
  have HBA : (webB ops && acyB ops && (ops.size == 40 + 1) && Region.sinkB .any ops 40 && (List.range (40 + 1)).all fun j => !Region.waitsFor .any ops j 40) = true := by rw [hops]; kernel_rfl
  have HWB : webB ops = true := by rw [hops]; kernel_rfl
  have HN0 : ∀ j, j < ops.size → dstOf ops j ≠ some 0 := noDst_spec (by rw [hops]; kernel_rfl)
  have HN2 : ∀ j, j < ops.size → dstOf ops j ≠ some 2 := noDst_spec (by rw [hops]; kernel_rfl)
  have HN4 : ∀ j, j < ops.size → dstOf ops j ≠ some 4 := noDst_spec (by rw [hops]; kernel_rfl)
  obtain ⟨w0, hw0⟩ : ∃ w0 : World, w0 = { ((w.alloc (.cells (V.cells C.max) 29)).alloc (.cells #[.int .i64 0, .slice none 0 0, .slice none 0 0, .slice none 0 0, .slice none 0 0, .slice none 0 0, .slice none 0 0, .slice none 0 0, .slice none 0 0, .slice none 0 0, .slice none 0 0] 29)) with drawn := (((w.alloc (.cells (V.cells C.max) 29)).alloc (.cells #[.int .i64 0, .slice none 0 0, .slice none 0 0, .slice none 0 0, .slice none 0 0, .slice none 0 0, .slice none 0 0, .slice none 0 0, .slice none 0 0, .slice none 0 0, .slice none 0 0] 29))).drawn + 1 } := ⟨_, rfl⟩
  have hb0 : Below w.heap.size w w0 := by
    rw [hw0]
    exact (((Below.refl _ w).alloc (Nat.le_refl _) _).alloc (by simp) _).drew
  have hx0 : Blk w0 w.heap.size 29 (V.cells C.max) := by
    rw [hw0]
    exact ((Blk.new w _ _).alloc _).drew
  have hs0 : w0.heap.size = w.heap.size + 1 + 1 := by rw [hw0]; simp
  have HIN : ∀ wz, Below w0.heap.size w0 wz → C.In wz V := fun wz hb => (h.below hb0).below hb
  have HBD : ∀ wz, Below w0.heap.size w0 wz → HB wz bx b F := fun wz h2 => (hb.below hb0).below h2
  have HMZ : ∀ wz, Below w0.heap.size w0 wz → Nums wz g M := fun wz h2 => by
    have h3 := Blk.below hM hb0 (Blk.lt hM)
    exact Blk.below h3 h2 (Blk.lt h3)
  have HCELL : ∀ wz, Below w0.heap.size w0 wz → ∀ k, wz.cell? ⟨w.heap.size, k, none⟩ = (V.cells C.max)[k]? := fun wz hb k => (hx0.below hb hx0.lt).cell k
  have HSZ : ∀ wz, Below w0.heap.size w0 wz → w.heap.size ≤ wz.heap.size := fun wz hb => by have := hb.size; omega
  refine wp_region_web_tail (by kernel_rfl) 40 HBA (fun w1 w2 => Below w1.heap.size w1 w2) (valL (bltVals w.heap.size bx w.heap.size mx MV V nL nJ X vs)) freshH sepH blt_sep (fun a => Below.refl _ _) (fun a b c h1 h2 => bt h1 (Nat.le_refl _) h2) blt_keep ?_ ?_
  · intro i o hi ho
    rw [← hw0]
    rw [hops] at ho
    match i, hi, ho with
    | 0, _, ho =>
      simp only [List.getElem?_toArray, List.getElem?_cons_zero, Option.some.injEq] at ho; subst ho
      refine webStep_of HWB rfl (fun f aC wz hw hd ha hv hsp K hK => ?_)
      have e1 : aC.eval (.tmp 0) = .pointer (some ⟨bx, 0, none⟩) := (ha 0 HN0).trans rfl
      refine wp_val (v := .pointer (some ⟨bx, 0, none⟩)) (w' := wz) ?_ (hK _ _ (Below.refl _ _) rfl (fun h => absurd h (by decide)))
      show (pure (Next.value (aC.eval (.tmp 0))) : Sem Next).run Try.prog wz = _
      rw [e1]
      rfl
    | 1, _, ho =>
      simp only [List.getElem?_toArray, List.getElem?_cons_zero, List.getElem?_cons_succ, Option.some.injEq] at ho; subst ho
      refine webStep_of HWB rfl (fun f aC wz hw hd ha hv hsp K hK => ?_)
      have e1 : aC.eval (.tmp 12) = .pointer (some ⟨bx, 0, none⟩) := (hd 0 12 (by rw [hops]; kernel_rfl : Region.waitsFor .any ops 1 0 = true) (by rw [hops]; kernel_rfl : dstOf ops 0 = some 12) (by simp)).trans (hv 0 (by rw [hops]; kernel_rfl : Region.waitsFor .any ops 1 0 = true))
      refine wp_enter (f := 88) (args := #[.pointer (some ⟨bx, 0, none⟩)]) ?_ ((last_any wz bx b F (HBD wz hw)).mono ?_)
      · simp [execOp, resolve, e1]; rfl
      · rintro e w' ⟨rfl, hbel⟩
        exact ⟨_, rfl, hK _ w' hbel (by rw [← hmx]; rfl) (fun h => absurd h (by decide))⟩
    | 2, _, ho =>
      simp only [List.getElem?_toArray, List.getElem?_cons_zero, List.getElem?_cons_succ, Option.some.injEq] at ho; subst ho
      refine webStep_of HWB rfl (fun f aC wz hw hd ha hv hsp K hK => ?_)
      have e1 : aC.eval (.tmp 2) = MV := (ha 2 HN2).trans rfl
      refine wp_val (v := MV) (w' := wz) ?_ (hK _ _ (Below.refl _ _) rfl (fun h => absurd h (by decide)))
      show (pure (Next.value (aC.eval (.tmp 2))) : Sem Next).run Try.prog wz = _
      rw [e1]
      rfl
    | 3, _, ho =>
      simp only [List.getElem?_toArray, List.getElem?_cons_zero, List.getElem?_cons_succ, Option.some.injEq] at ho; subst ho
      refine webStep_of HWB rfl (fun f aC wz hw hd ha hv hsp K hK => ?_)
      have e1 : aC.eval (.tmp 4) = .pointer (some ⟨w.heap.size, 0, none⟩) := (ha 4 HN4).trans rfl
      refine wp_val (v := .pointer (some ⟨w.heap.size, 1, none⟩)) (w' := wz) ?_ (hK _ _ (Below.refl _ _) rfl (fun h => absurd h (by decide)))
      show ((do pure (Next.value (← Instr.fieldAt 29 (aC.eval (.tmp 4)) 1)) : Sem Next)).run Try.prog wz = _
      rw [e1]
      exact run_value (field_1 _ _)
    | 4, _, ho =>
      simp only [List.getElem?_toArray, List.getElem?_cons_zero, List.getElem?_cons_succ, Option.some.injEq] at ho; subst ho
      refine webStep_of HWB rfl (fun f aC wz hw hd ha hv hsp K hK => ?_)
      have e1 : aC.eval (.tmp 15) = .pointer (some ⟨w.heap.size, 1, none⟩) := (hd 3 15 (by rw [hops]; kernel_rfl : Region.waitsFor .any ops 4 3 = true) (by rw [hops]; kernel_rfl : dstOf ops 3 = some 15) (by simp)).trans (hv 3 (by rw [hops]; kernel_rfl : Region.waitsFor .any ops 4 3 = true))
      refine wp_val (v := V.i) (w' := wz) ?_ (hK _ _ (Below.refl _ _) rfl (fun h => absurd h (by decide)))
      show ((do pure (Next.value (← Instr.loadAt 22 (aC.eval (.tmp 15)))) : Sem Next)).run Try.prog wz = _
      rw [e1]
      exact run_value (load_at _ load_I (HCELL wz hw 1))
    | 5, _, ho =>
      simp only [List.getElem?_toArray, List.getElem?_cons_zero, List.getElem?_cons_succ, Option.some.injEq] at ho; subst ho
      refine webStep_of HWB rfl (fun f aC wz hw hd ha hv hsp K hK => ?_)
      have e1 : aC.eval (.tmp 14) = MV := (hd 2 14 (by rw [hops]; kernel_rfl : Region.waitsFor .any ops 5 2 = true) (by rw [hops]; kernel_rfl : dstOf ops 2 = some 14) (by simp)).trans (hv 2 (by rw [hops]; kernel_rfl : Region.waitsFor .any ops 5 2 = true))
      have e2 : aC.eval (.tmp 16) = V.i := (hd 4 16 (by rw [hops]; kernel_rfl : Region.waitsFor .any ops 5 4 = true) (by rw [hops]; kernel_rfl : dstOf ops 4 = some 16) (by simp)).trans (hv 4 (by rw [hops]; kernel_rfl : Region.waitsFor .any ops 5 4 = true))
      refine wp_enter (f := 89) (args := #[MV, V.i]) ?_ ?_
      · simp [execOp, resolve, e1, e2]; rfl
      · rw [← hMV]
        refine (all_any wz g n M V.i C.inputs (HMZ wz hw) hMl hk hn1 (HIN wz hw).i hr.ni (hlit _ (fun l hl => ⟨by have := (hr.i l hl).1; omega, (hr.i l hl).2⟩))).mono ?_
        rintro e w' ⟨hbel, g2, rfl, hg2, hnum⟩
        exact ⟨_, rfl, hK _ w' hbel (by rw [← hX]; exact all_own hnum (Nat.le_trans (HSZ wz hw) hg2) hr.ni) (fun _ g hg => by injection hg with hg; rw [← hg]; exact hg2)⟩
    | 6, _, ho =>
      simp only [List.getElem?_toArray, List.getElem?_cons_zero, List.getElem?_cons_succ, Option.some.injEq] at ho; subst ho
      refine webStep_of HWB rfl (fun f aC wz hw hd ha hv hsp K hK => ?_)
      have e1 : aC.eval (.tmp 4) = .pointer (some ⟨w.heap.size, 0, none⟩) := (ha 4 HN4).trans rfl
      refine wp_val (v := .pointer (some ⟨w.heap.size, 2, none⟩)) (w' := wz) ?_ (hK _ _ (Below.refl _ _) rfl (fun h => absurd h (by decide)))
      show ((do pure (Next.value (← Instr.fieldAt 29 (aC.eval (.tmp 4)) 2)) : Sem Next)).run Try.prog wz = _
      rw [e1]
      exact run_value (field_2 _ _)
    | 7, _, ho =>
      simp only [List.getElem?_toArray, List.getElem?_cons_zero, List.getElem?_cons_succ, Option.some.injEq] at ho; subst ho
      refine webStep_of HWB rfl (fun f aC wz hw hd ha hv hsp K hK => ?_)
      have e1 : aC.eval (.tmp 18) = .pointer (some ⟨w.heap.size, 2, none⟩) := (hd 6 18 (by rw [hops]; kernel_rfl : Region.waitsFor .any ops 7 6 = true) (by rw [hops]; kernel_rfl : dstOf ops 6 = some 18) (by simp)).trans (hv 6 (by rw [hops]; kernel_rfl : Region.waitsFor .any ops 7 6 = true))
      refine wp_val (v := V.l) (w' := wz) ?_ (hK _ _ (Below.refl _ _) rfl (fun h => absurd h (by decide)))
      show ((do pure (Next.value (← Instr.loadAt 23 (aC.eval (.tmp 18)))) : Sem Next)).run Try.prog wz = _
      rw [e1]
      exact run_value (load_at _ load_L (HCELL wz hw 2))
    | 8, _, ho =>
      simp only [List.getElem?_toArray, List.getElem?_cons_zero, List.getElem?_cons_succ, Option.some.injEq] at ho; subst ho
      refine webStep_of HWB rfl (fun f aC wz hw hd ha hv hsp K hK => ?_)
      have e1 : aC.eval (.tmp 19) = V.l := (hd 7 19 (by rw [hops]; kernel_rfl : Region.waitsFor .any ops 8 7 = true) (by rw [hops]; kernel_rfl : dstOf ops 7 = some 19) (by simp)).trans (hv 7 (by rw [hops]; kernel_rfl : Region.waitsFor .any ops 8 7 = true))
      rw [hvl] at e1
      refine wp_val (v := .int .i64 (nL : Int)) (w' := wz) ?_ (hK _ _ (Below.refl _ _) rfl (fun h => absurd h (by decide)))
      first | (go_simp; rfl) | (simp [execOp, resolve, e1]; rfl)
    | 9, _, ho =>
      simp only [List.getElem?_toArray, List.getElem?_cons_zero, List.getElem?_cons_succ, Option.some.injEq] at ho; subst ho
      refine webStep_of HWB rfl (fun f aC wz hw hd ha hv hsp K hK => ?_)
      have e1 : aC.eval (.tmp 20) = .int .i64 (nL : Int) := (hd 8 20 (by rw [hops]; kernel_rfl : Region.waitsFor .any ops 9 8 = true) (by rw [hops]; kernel_rfl : dstOf ops 8 = some 20) (by simp)).trans (hv 8 (by rw [hops]; kernel_rfl : Region.waitsFor .any ops 9 8 = true))
      refine wp_val (v := .slice (some ⟨wz.heap.size, 0, none⟩) nL nL) (w' := wz.alloc (.cells (madeCells #[Value.int .i64 0, Value.int .i64 0, Value.int .i64 0] (nL * 3)) 78)) ?_ (hK _ _ ((Below.refl _ _).alloc (Nat.le_refl _) _) ?_ (fun h => absurd h (by decide)))
      · show ((do pure (Next.value (← Instr.makeSlice 23 (aC.eval (.tmp 20)) (aC.eval (.tmp 20)))) : Sem Next)).run Try.prog wz = _
        rw [e1]
        exact run_value (make_lats nL (by have := hr.nl; omega) wz)
      · rw [← hX]
        show World.ownsRow _ _ _ _ _ (List.replicate C.latches.length ((0, 0, 0) : Tri)).length ((List.replicate C.latches.length ((0, 0, 0) : Tri)).flatMap encT)
        rw [hnL]
        exact own_base (own_lats wz nL (by have := hr.nl; omega)) (HSZ wz hw)
    | 10, _, ho =>
      simp only [List.getElem?_toArray, List.getElem?_cons_zero, List.getElem?_cons_succ, Option.some.injEq] at ho; subst ho
      refine webStep_of HWB rfl (fun f aC wz hw hd ha hv hsp K hK => ?_)
      have e1 : aC.eval (.tmp 2) = MV := (ha 2 HN2).trans rfl
      refine wp_val (v := MV) (w' := wz) ?_ (hK _ _ (Below.refl _ _) rfl (fun h => absurd h (by decide)))
      show (pure (Next.value (aC.eval (.tmp 2))) : Sem Next).run Try.prog wz = _
      rw [e1]
      rfl
    | 11, _, ho =>
      simp only [List.getElem?_toArray, List.getElem?_cons_zero, List.getElem?_cons_succ, Option.some.injEq] at ho; subst ho
      refine webStep_of HWB rfl (fun f aC wz hw hd ha hv hsp K hK => ?_)
      have e1 : aC.eval (.tmp 4) = .pointer (some ⟨w.heap.size, 0, none⟩) := (ha 4 HN4).trans rfl
      refine wp_val (v := .pointer (some ⟨w.heap.size, 3, none⟩)) (w' := wz) ?_ (hK _ _ (Below.refl _ _) rfl (fun h => absurd h (by decide)))
      show ((do pure (Next.value (← Instr.fieldAt 29 (aC.eval (.tmp 4)) 3)) : Sem Next)).run Try.prog wz = _
      rw [e1]
      exact run_value (field_3 _ _)
    | 12, _, ho =>
      simp only [List.getElem?_toArray, List.getElem?_cons_zero, List.getElem?_cons_succ, Option.some.injEq] at ho; subst ho
      refine webStep_of HWB rfl (fun f aC wz hw hd ha hv hsp K hK => ?_)
      have e1 : aC.eval (.tmp 23) = .pointer (some ⟨w.heap.size, 3, none⟩) := (hd 11 23 (by rw [hops]; kernel_rfl : Region.waitsFor .any ops 12 11 = true) (by rw [hops]; kernel_rfl : dstOf ops 11 = some 23) (by simp)).trans (hv 11 (by rw [hops]; kernel_rfl : Region.waitsFor .any ops 12 11 = true))
      refine wp_val (v := V.o) (w' := wz) ?_ (hK _ _ (Below.refl _ _) rfl (fun h => absurd h (by decide)))
      show ((do pure (Next.value (← Instr.loadAt 22 (aC.eval (.tmp 23)))) : Sem Next)).run Try.prog wz = _
      rw [e1]
      exact run_value (load_at _ load_I (HCELL wz hw 3))
    | 13, _, ho =>
      simp only [List.getElem?_toArray, List.getElem?_cons_zero, List.getElem?_cons_succ, Option.some.injEq] at ho; subst ho
      refine webStep_of HWB rfl (fun f aC wz hw hd ha hv hsp K hK => ?_)
      have e1 : aC.eval (.tmp 22) = MV := (hd 10 22 (by rw [hops]; kernel_rfl : Region.waitsFor .any ops 13 10 = true) (by rw [hops]; kernel_rfl : dstOf ops 10 = some 22) (by simp)).trans (hv 10 (by rw [hops]; kernel_rfl : Region.waitsFor .any ops 13 10 = true))
      have e2 : aC.eval (.tmp 24) = V.o := (hd 12 24 (by rw [hops]; kernel_rfl : Region.waitsFor .any ops 13 12 = true) (by rw [hops]; kernel_rfl : dstOf ops 12 = some 24) (by simp)).trans (hv 12 (by rw [hops]; kernel_rfl : Region.waitsFor .any ops 13 12 = true))
      refine wp_enter (f := 89) (args := #[MV, V.o]) ?_ ?_
      · simp [execOp, resolve, e1, e2]; rfl
      · rw [← hMV]
        refine (all_any wz g n M V.o C.outputs (HMZ wz hw) hMl hk hn1 (HIN wz hw).o hr.no (hlit _ hr.o)).mono ?_
        rintro e w' ⟨hbel, g2, rfl, hg2, hnum⟩
        exact ⟨_, rfl, hK _ w' hbel (by rw [← hX]; exact all_own hnum (Nat.le_trans (HSZ wz hw) hg2) hr.no) (fun _ g hg => by injection hg with hg; rw [← hg]; exact hg2)⟩
    | 14, _, ho =>
      simp only [List.getElem?_toArray, List.getElem?_cons_zero, List.getElem?_cons_succ, Option.some.injEq] at ho; subst ho
      refine webStep_of HWB rfl (fun f aC wz hw hd ha hv hsp K hK => ?_)
      have e1 : aC.eval (.tmp 2) = MV := (ha 2 HN2).trans rfl
      refine wp_val (v := MV) (w' := wz) ?_ (hK _ _ (Below.refl _ _) rfl (fun h => absurd h (by decide)))
      show (pure (Next.value (aC.eval (.tmp 2))) : Sem Next).run Try.prog wz = _
      rw [e1]
      rfl
    | 15, _, ho =>
      simp only [List.getElem?_toArray, List.getElem?_cons_zero, List.getElem?_cons_succ, Option.some.injEq] at ho; subst ho
      refine webStep_of HWB rfl (fun f aC wz hw hd ha hv hsp K hK => ?_)
      have e1 : aC.eval (.tmp 4) = .pointer (some ⟨w.heap.size, 0, none⟩) := (ha 4 HN4).trans rfl
      refine wp_val (v := .pointer (some ⟨w.heap.size, 4, none⟩)) (w' := wz) ?_ (hK _ _ (Below.refl _ _) rfl (fun h => absurd h (by decide)))
      show ((do pure (Next.value (← Instr.fieldAt 29 (aC.eval (.tmp 4)) 4)) : Sem Next)).run Try.prog wz = _
      rw [e1]
      exact run_value (field_4 _ _)
    | 16, _, ho =>
      simp only [List.getElem?_toArray, List.getElem?_cons_zero, List.getElem?_cons_succ, Option.some.injEq] at ho; subst ho
      refine webStep_of HWB rfl (fun f aC wz hw hd ha hv hsp K hK => ?_)
      have e1 : aC.eval (.tmp 27) = .pointer (some ⟨w.heap.size, 4, none⟩) := (hd 15 27 (by rw [hops]; kernel_rfl : Region.waitsFor .any ops 16 15 = true) (by rw [hops]; kernel_rfl : dstOf ops 15 = some 27) (by simp)).trans (hv 15 (by rw [hops]; kernel_rfl : Region.waitsFor .any ops 16 15 = true))
      refine wp_val (v := V.b) (w' := wz) ?_ (hK _ _ (Below.refl _ _) rfl (fun h => absurd h (by decide)))
      show ((do pure (Next.value (← Instr.loadAt 22 (aC.eval (.tmp 27)))) : Sem Next)).run Try.prog wz = _
      rw [e1]
      exact run_value (load_at _ load_I (HCELL wz hw 4))
    | 17, _, ho =>
      simp only [List.getElem?_toArray, List.getElem?_cons_zero, List.getElem?_cons_succ, Option.some.injEq] at ho; subst ho
      refine webStep_of HWB rfl (fun f aC wz hw hd ha hv hsp K hK => ?_)
      have e1 : aC.eval (.tmp 26) = MV := (hd 14 26 (by rw [hops]; kernel_rfl : Region.waitsFor .any ops 17 14 = true) (by rw [hops]; kernel_rfl : dstOf ops 14 = some 26) (by simp)).trans (hv 14 (by rw [hops]; kernel_rfl : Region.waitsFor .any ops 17 14 = true))
      have e2 : aC.eval (.tmp 28) = V.b := (hd 16 28 (by rw [hops]; kernel_rfl : Region.waitsFor .any ops 17 16 = true) (by rw [hops]; kernel_rfl : dstOf ops 16 = some 28) (by simp)).trans (hv 16 (by rw [hops]; kernel_rfl : Region.waitsFor .any ops 17 16 = true))
      refine wp_enter (f := 89) (args := #[MV, V.b]) ?_ ?_
      · simp [execOp, resolve, e1, e2]; rfl
      · rw [← hMV]
        refine (all_any wz g n M V.b C.bads (HMZ wz hw) hMl hk hn1 (HIN wz hw).b hr.nb (hlit _ hr.b)).mono ?_
        rintro e w' ⟨hbel, g2, rfl, hg2, hnum⟩
        exact ⟨_, rfl, hK _ w' hbel (by rw [← hX]; exact all_own hnum (Nat.le_trans (HSZ wz hw) hg2) hr.nb) (fun _ g hg => by injection hg with hg; rw [← hg]; exact hg2)⟩
    | 18, _, ho =>
      simp only [List.getElem?_toArray, List.getElem?_cons_zero, List.getElem?_cons_succ, Option.some.injEq] at ho; subst ho
      refine webStep_of HWB rfl (fun f aC wz hw hd ha hv hsp K hK => ?_)
      have e1 : aC.eval (.tmp 2) = MV := (ha 2 HN2).trans rfl
      refine wp_val (v := MV) (w' := wz) ?_ (hK _ _ (Below.refl _ _) rfl (fun h => absurd h (by decide)))
      show (pure (Next.value (aC.eval (.tmp 2))) : Sem Next).run Try.prog wz = _
      rw [e1]
      rfl
    | 19, _, ho =>
      simp only [List.getElem?_toArray, List.getElem?_cons_zero, List.getElem?_cons_succ, Option.some.injEq] at ho; subst ho
      refine webStep_of HWB rfl (fun f aC wz hw hd ha hv hsp K hK => ?_)
      have e1 : aC.eval (.tmp 4) = .pointer (some ⟨w.heap.size, 0, none⟩) := (ha 4 HN4).trans rfl
      refine wp_val (v := .pointer (some ⟨w.heap.size, 5, none⟩)) (w' := wz) ?_ (hK _ _ (Below.refl _ _) rfl (fun h => absurd h (by decide)))
      show ((do pure (Next.value (← Instr.fieldAt 29 (aC.eval (.tmp 4)) 5)) : Sem Next)).run Try.prog wz = _
      rw [e1]
      exact run_value (field_5 _ _)
    | 20, _, ho =>
      simp only [List.getElem?_toArray, List.getElem?_cons_zero, List.getElem?_cons_succ, Option.some.injEq] at ho; subst ho
      refine webStep_of HWB rfl (fun f aC wz hw hd ha hv hsp K hK => ?_)
      have e1 : aC.eval (.tmp 31) = .pointer (some ⟨w.heap.size, 5, none⟩) := (hd 19 31 (by rw [hops]; kernel_rfl : Region.waitsFor .any ops 20 19 = true) (by rw [hops]; kernel_rfl : dstOf ops 19 = some 31) (by simp)).trans (hv 19 (by rw [hops]; kernel_rfl : Region.waitsFor .any ops 20 19 = true))
      refine wp_val (v := V.c) (w' := wz) ?_ (hK _ _ (Below.refl _ _) rfl (fun h => absurd h (by decide)))
      show ((do pure (Next.value (← Instr.loadAt 22 (aC.eval (.tmp 31)))) : Sem Next)).run Try.prog wz = _
      rw [e1]
      exact run_value (load_at _ load_I (HCELL wz hw 5))
    | 21, _, ho =>
      simp only [List.getElem?_toArray, List.getElem?_cons_zero, List.getElem?_cons_succ, Option.some.injEq] at ho; subst ho
      refine webStep_of HWB rfl (fun f aC wz hw hd ha hv hsp K hK => ?_)
      have e1 : aC.eval (.tmp 30) = MV := (hd 18 30 (by rw [hops]; kernel_rfl : Region.waitsFor .any ops 21 18 = true) (by rw [hops]; kernel_rfl : dstOf ops 18 = some 30) (by simp)).trans (hv 18 (by rw [hops]; kernel_rfl : Region.waitsFor .any ops 21 18 = true))
      have e2 : aC.eval (.tmp 32) = V.c := (hd 20 32 (by rw [hops]; kernel_rfl : Region.waitsFor .any ops 21 20 = true) (by rw [hops]; kernel_rfl : dstOf ops 20 = some 32) (by simp)).trans (hv 20 (by rw [hops]; kernel_rfl : Region.waitsFor .any ops 21 20 = true))
      refine wp_enter (f := 89) (args := #[MV, V.c]) ?_ ?_
      · simp [execOp, resolve, e1, e2]; rfl
      · rw [← hMV]
        refine (all_any wz g n M V.c C.constraints (HMZ wz hw) hMl hk hn1 (HIN wz hw).c hr.nc (hlit _ hr.c)).mono ?_
        rintro e w' ⟨hbel, g2, rfl, hg2, hnum⟩
        exact ⟨_, rfl, hK _ w' hbel (by rw [← hX]; exact all_own hnum (Nat.le_trans (HSZ wz hw) hg2) hr.nc) (fun _ g hg => by injection hg with hg; rw [← hg]; exact hg2)⟩
    | 22, _, ho =>
      simp only [List.getElem?_toArray, List.getElem?_cons_zero, List.getElem?_cons_succ, Option.some.injEq] at ho; subst ho
      refine webStep_of HWB rfl (fun f aC wz hw hd ha hv hsp K hK => ?_)
      have e1 : aC.eval (.tmp 4) = .pointer (some ⟨w.heap.size, 0, none⟩) := (ha 4 HN4).trans rfl
      refine wp_val (v := .pointer (some ⟨w.heap.size, 6, none⟩)) (w' := wz) ?_ (hK _ _ (Below.refl _ _) rfl (fun h => absurd h (by decide)))
      show ((do pure (Next.value (← Instr.fieldAt 29 (aC.eval (.tmp 4)) 6)) : Sem Next)).run Try.prog wz = _
      rw [e1]
      exact run_value (field_6 _ _)
    | 23, _, ho =>
      simp only [List.getElem?_toArray, List.getElem?_cons_zero, List.getElem?_cons_succ, Option.some.injEq] at ho; subst ho
      refine webStep_of HWB rfl (fun f aC wz hw hd ha hv hsp K hK => ?_)
      have e1 : aC.eval (.tmp 34) = .pointer (some ⟨w.heap.size, 6, none⟩) := (hd 22 34 (by rw [hops]; kernel_rfl : Region.waitsFor .any ops 23 22 = true) (by rw [hops]; kernel_rfl : dstOf ops 22 = some 34) (by simp)).trans (hv 22 (by rw [hops]; kernel_rfl : Region.waitsFor .any ops 23 22 = true))
      refine wp_val (v := V.j) (w' := wz) ?_ (hK _ _ (Below.refl _ _) rfl (fun h => absurd h (by decide)))
      show ((do pure (Next.value (← Instr.loadAt 24 (aC.eval (.tmp 34)))) : Sem Next)).run Try.prog wz = _
      rw [e1]
      exact run_value (load_at _ load_V (HCELL wz hw 6))
    | 24, _, ho =>
      simp only [List.getElem?_toArray, List.getElem?_cons_zero, List.getElem?_cons_succ, Option.some.injEq] at ho; subst ho
      refine webStep_of HWB rfl (fun f aC wz hw hd ha hv hsp K hK => ?_)
      have e1 : aC.eval (.tmp 35) = V.j := (hd 23 35 (by rw [hops]; kernel_rfl : Region.waitsFor .any ops 24 23 = true) (by rw [hops]; kernel_rfl : dstOf ops 23 = some 35) (by simp)).trans (hv 23 (by rw [hops]; kernel_rfl : Region.waitsFor .any ops 24 23 = true))
      rw [hvj] at e1
      refine wp_val (v := .int .i64 (nJ : Int)) (w' := wz) ?_ (hK _ _ (Below.refl _ _) rfl (fun h => absurd h (by decide)))
      first | (go_simp; rfl) | (simp [execOp, resolve, e1]; rfl)
    | 25, _, ho =>
      simp only [List.getElem?_toArray, List.getElem?_cons_zero, List.getElem?_cons_succ, Option.some.injEq] at ho; subst ho
      refine webStep_of HWB rfl (fun f aC wz hw hd ha hv hsp K hK => ?_)
      have e1 : aC.eval (.tmp 36) = .int .i64 (nJ : Int) := (hd 24 36 (by rw [hops]; kernel_rfl : Region.waitsFor .any ops 25 24 = true) (by rw [hops]; kernel_rfl : dstOf ops 24 = some 36) (by simp)).trans (hv 24 (by rw [hops]; kernel_rfl : Region.waitsFor .any ops 25 24 = true))
      refine wp_val (v := .slice (some ⟨wz.heap.size, 0, none⟩) nJ nJ) (w' := wz.alloc (.cells (madeCells #[Value.slice none 0 0] nJ) 22)) ?_ (hK _ _ ((Below.refl _ _).alloc (Nat.le_refl _) _) ?_ (fun h => absurd h (by decide)))
      · show ((do pure (Next.value (← Instr.makeSlice 24 (aC.eval (.tmp 36)) (aC.eval (.tmp 36)))) : Sem Next)).run Try.prog wz = _
        rw [e1]
        exact run_value (make_rows nJ (by have := hr.nj; omega) wz)
      · rw [← hvs]
        exact own_base (own_lists wz nJ (by have := hr.nj; omega)) (HSZ wz hw)
    | 26, _, ho =>
      simp only [List.getElem?_toArray, List.getElem?_cons_zero, List.getElem?_cons_succ, Option.some.injEq] at ho; subst ho
      refine webStep_of HWB rfl (fun f aC wz hw hd ha hv hsp K hK => ?_)
      have e1 : aC.eval (.tmp 2) = MV := (ha 2 HN2).trans rfl
      refine wp_val (v := MV) (w' := wz) ?_ (hK _ _ (Below.refl _ _) rfl (fun h => absurd h (by decide)))
      show (pure (Next.value (aC.eval (.tmp 2))) : Sem Next).run Try.prog wz = _
      rw [e1]
      rfl
    | 27, _, ho =>
      simp only [List.getElem?_toArray, List.getElem?_cons_zero, List.getElem?_cons_succ, Option.some.injEq] at ho; subst ho
      refine webStep_of HWB rfl (fun f aC wz hw hd ha hv hsp K hK => ?_)
      have e1 : aC.eval (.tmp 4) = .pointer (some ⟨w.heap.size, 0, none⟩) := (ha 4 HN4).trans rfl
      refine wp_val (v := .pointer (some ⟨w.heap.size, 7, none⟩)) (w' := wz) ?_ (hK _ _ (Below.refl _ _) rfl (fun h => absurd h (by decide)))
      show ((do pure (Next.value (← Instr.fieldAt 29 (aC.eval (.tmp 4)) 7)) : Sem Next)).run Try.prog wz = _
      rw [e1]
      exact run_value (field_7 _ _)
    | 28, _, ho =>
      simp only [List.getElem?_toArray, List.getElem?_cons_zero, List.getElem?_cons_succ, Option.some.injEq] at ho; subst ho
      refine webStep_of HWB rfl (fun f aC wz hw hd ha hv hsp K hK => ?_)
      have e1 : aC.eval (.tmp 39) = .pointer (some ⟨w.heap.size, 7, none⟩) := (hd 27 39 (by rw [hops]; kernel_rfl : Region.waitsFor .any ops 28 27 = true) (by rw [hops]; kernel_rfl : dstOf ops 27 = some 39) (by simp)).trans (hv 27 (by rw [hops]; kernel_rfl : Region.waitsFor .any ops 28 27 = true))
      refine wp_val (v := V.f) (w' := wz) ?_ (hK _ _ (Below.refl _ _) rfl (fun h => absurd h (by decide)))
      show ((do pure (Next.value (← Instr.loadAt 22 (aC.eval (.tmp 39)))) : Sem Next)).run Try.prog wz = _
      rw [e1]
      exact run_value (load_at _ load_I (HCELL wz hw 7))
    | 29, _, ho =>
      simp only [List.getElem?_toArray, List.getElem?_cons_zero, List.getElem?_cons_succ, Option.some.injEq] at ho; subst ho
      refine webStep_of HWB rfl (fun f aC wz hw hd ha hv hsp K hK => ?_)
      have e1 : aC.eval (.tmp 38) = MV := (hd 26 38 (by rw [hops]; kernel_rfl : Region.waitsFor .any ops 29 26 = true) (by rw [hops]; kernel_rfl : dstOf ops 26 = some 38) (by simp)).trans (hv 26 (by rw [hops]; kernel_rfl : Region.waitsFor .any ops 29 26 = true))
      have e2 : aC.eval (.tmp 40) = V.f := (hd 28 40 (by rw [hops]; kernel_rfl : Region.waitsFor .any ops 29 28 = true) (by rw [hops]; kernel_rfl : dstOf ops 28 = some 40) (by simp)).trans (hv 28 (by rw [hops]; kernel_rfl : Region.waitsFor .any ops 29 28 = true))
      refine wp_enter (f := 89) (args := #[MV, V.f]) ?_ ?_
      · simp [execOp, resolve, e1, e2]; rfl
      · rw [← hMV]
        refine (all_any wz g n M V.f C.fairness (HMZ wz hw) hMl hk hn1 (HIN wz hw).f hr.nf (hlit _ hr.f)).mono ?_
        rintro e w' ⟨hbel, g2, rfl, hg2, hnum⟩
        exact ⟨_, rfl, hK _ w' hbel (by rw [← hX]; exact all_own hnum (Nat.le_trans (HSZ wz hw) hg2) hr.nf) (fun _ g hg => by injection hg with hg; rw [← hg]; exact hg2)⟩
    | 30, _, ho =>
      simp only [List.getElem?_toArray, List.getElem?_cons_zero, List.getElem?_cons_succ, Option.some.injEq] at ho; subst ho
      refine webStep_of HWB rfl (fun f aC wz hw hd ha hv hsp K hK => ?_)
      have e1 : aC.eval (.tmp 0) = .pointer (some ⟨bx, 0, none⟩) := (ha 0 HN0).trans rfl
      refine wp_val (v := .pointer (some ⟨bx, 0, none⟩)) (w' := wz) ?_ (hK _ _ (Below.refl _ _) rfl (fun h => absurd h (by decide)))
      show (pure (Next.value (aC.eval (.tmp 0))) : Sem Next).run Try.prog wz = _
      rw [e1]
      rfl
    | 31, _, ho =>
      simp only [List.getElem?_toArray, List.getElem?_cons_zero, List.getElem?_cons_succ, Option.some.injEq] at ho; subst ho
      refine webStep_of HWB rfl (fun f aC wz hw hd ha hv hsp K hK => ?_)
      have e1 : aC.eval (.tmp 42) = .pointer (some ⟨bx, 0, none⟩) := (hd 30 42 (by rw [hops]; kernel_rfl : Region.waitsFor .any ops 31 30 = true) (by rw [hops]; kernel_rfl : dstOf ops 30 = some 42) (by simp)).trans (hv 30 (by rw [hops]; kernel_rfl : Region.waitsFor .any ops 31 30 = true))
      refine wp_enter (f := 90) (args := #[.pointer (some ⟨bx, 0, none⟩)]) ?_ ((hGates_any wz bx b F (HBD wz hw)).mono ?_)
      · simp [execOp, resolve, e1]; rfl
      · rintro e w' ⟨hbel, v', rfl, hown⟩
        exact ⟨v', rfl, hK v' w' hbel (by rw [← hX]; exact own_base hown (HSZ wz hw)) (fun h => absurd h (by decide))⟩
    | 32, _, ho =>
      simp only [List.getElem?_toArray, List.getElem?_cons_zero, List.getElem?_cons_succ, Option.some.injEq] at ho; subst ho
      refine webStep_of HWB rfl (fun f aC wz hw hd ha hv hsp K hK => ?_)
      have e1 : aC.eval (.tmp 4) = .pointer (some ⟨w.heap.size, 0, none⟩) := (ha 4 HN4).trans rfl
      refine wp_val (v := .pointer (some ⟨w.heap.size, 9, none⟩)) (w' := wz) ?_ (hK _ _ (Below.refl _ _) rfl (fun h => absurd h (by decide)))
      show ((do pure (Next.value (← Instr.fieldAt 29 (aC.eval (.tmp 4)) 9)) : Sem Next)).run Try.prog wz = _
      rw [e1]
      exact run_value (field_9 _ _)
    | 33, _, ho =>
      simp only [List.getElem?_toArray, List.getElem?_cons_zero, List.getElem?_cons_succ, Option.some.injEq] at ho; subst ho
      refine webStep_of HWB rfl (fun f aC wz hw hd ha hv hsp K hK => ?_)
      have e1 : aC.eval (.tmp 44) = .pointer (some ⟨w.heap.size, 9, none⟩) := (hd 32 44 (by rw [hops]; kernel_rfl : Region.waitsFor .any ops 33 32 = true) (by rw [hops]; kernel_rfl : dstOf ops 32 = some 44) (by simp)).trans (hv 32 (by rw [hops]; kernel_rfl : Region.waitsFor .any ops 33 32 = true))
      refine wp_val (v := V.s) (w' := wz) ?_ (hK _ _ (Below.refl _ _) rfl (fun h => absurd h (by decide)))
      show ((do pure (Next.value (← Instr.loadAt 26 (aC.eval (.tmp 44)))) : Sem Next)).run Try.prog wz = _
      rw [e1]
      exact run_value (load_at _ load_S (HCELL wz hw 9))
    | 34, _, ho =>
      simp only [List.getElem?_toArray, List.getElem?_cons_zero, List.getElem?_cons_succ, Option.some.injEq] at ho; subst ho
      refine webStep_of HWB rfl (fun f aC wz hw hd ha hv hsp K hK => ?_)
      have e1 : aC.eval (.tmp 45) = V.s := (hd 33 45 (by rw [hops]; kernel_rfl : Region.waitsFor .any ops 34 33 = true) (by rw [hops]; kernel_rfl : dstOf ops 33 = some 45) (by simp)).trans (hv 33 (by rw [hops]; kernel_rfl : Region.waitsFor .any ops 34 33 = true))
      refine wp_enter (f := 91) (args := #[V.s]) ?_ ((CloneS_any wz V.s C.symbols (HIN wz hw).s hrm.s).mono ?_)
      · simp [execOp, resolve, e1]; rfl
      · rintro e w' ⟨v', rfl, hown, hbel⟩
        exact ⟨v', rfl, hK v' w' hbel (by rw [← hX]; exact own_base hown (HSZ wz hw)) (fun h => absurd h (by decide))⟩
    | 35, _, ho =>
      simp only [List.getElem?_toArray, List.getElem?_cons_zero, List.getElem?_cons_succ, Option.some.injEq] at ho; subst ho
      refine webStep_of HWB rfl (fun f aC wz hw hd ha hv hsp K hK => ?_)
      have e1 : aC.eval (.tmp 4) = .pointer (some ⟨w.heap.size, 0, none⟩) := (ha 4 HN4).trans rfl
      refine wp_val (v := .pointer (some ⟨w.heap.size, 10, none⟩)) (w' := wz) ?_ (hK _ _ (Below.refl _ _) rfl (fun h => absurd h (by decide)))
      show ((do pure (Next.value (← Instr.fieldAt 29 (aC.eval (.tmp 4)) 10)) : Sem Next)).run Try.prog wz = _
      rw [e1]
      exact run_value (field_10 _ _)
    | 36, _, ho =>
      simp only [List.getElem?_toArray, List.getElem?_cons_zero, List.getElem?_cons_succ, Option.some.injEq] at ho; subst ho
      refine webStep_of HWB rfl (fun f aC wz hw hd ha hv hsp K hK => ?_)
      have e1 : aC.eval (.tmp 47) = .pointer (some ⟨w.heap.size, 10, none⟩) := (hd 35 47 (by rw [hops]; kernel_rfl : Region.waitsFor .any ops 36 35 = true) (by rw [hops]; kernel_rfl : dstOf ops 35 = some 47) (by simp)).trans (hv 35 (by rw [hops]; kernel_rfl : Region.waitsFor .any ops 36 35 = true))
      refine wp_val (v := V.t) (w' := wz) ?_ (hK _ _ (Below.refl _ _) rfl (fun h => absurd h (by decide)))
      show ((do pure (Next.value (← Instr.loadAt 27 (aC.eval (.tmp 47)))) : Sem Next)).run Try.prog wz = _
      rw [e1]
      exact run_value (load_at _ load_B (HCELL wz hw 10))
    | 37, _, ho =>
      simp only [List.getElem?_toArray, List.getElem?_cons_zero, List.getElem?_cons_succ, Option.some.injEq] at ho; subst ho
      refine webStep_of HWB rfl (fun f aC wz hw hd ha hv hsp K hK => ?_)
      have e1 : aC.eval (.tmp 48) = V.t := (hd 36 48 (by rw [hops]; kernel_rfl : Region.waitsFor .any ops 37 36 = true) (by rw [hops]; kernel_rfl : dstOf ops 36 = some 48) (by simp)).trans (hv 36 (by rw [hops]; kernel_rfl : Region.waitsFor .any ops 37 36 = true))
      refine wp_enter (f := 92) (args := #[V.t]) ?_ ((CloneB_any wz V.t C.comments (HIN wz hw).t hrm.t).mono ?_)
      · simp [execOp, resolve, e1]; rfl
      · rintro e w' ⟨v', rfl, hown, hbel⟩
        exact ⟨v', rfl, hK v' w' hbel (by rw [← hX]; exact own_base hown (HSZ wz hw)) (fun h => absurd h (by decide))⟩
    | 38, _, ho =>
      simp only [List.getElem?_toArray, List.getElem?_cons_zero, List.getElem?_cons_succ, Option.some.injEq] at ho; subst ho
      refine webStep_of HWB rfl (fun f aC wz hw hd ha hv hsp K hK => ?_)
      have em : aC.eval (.tmp 13) = .int .i64 mx := (hd 1 13 (by rw [hops]; kernel_rfl : Region.waitsFor .any ops 38 1 = true) (by rw [hops]; kernel_rfl : dstOf ops 1 = some 13) (by simp)).trans (hv 1 (by rw [hops]; kernel_rfl : Region.waitsFor .any ops 38 1 = true))
      have xi := hd 5 17 (by rw [hops]; kernel_rfl : Region.waitsFor .any ops 38 5 = true) (by rw [hops]; kernel_rfl : dstOf ops 5 = some 17) (by simp)
      have ri : wz.ownsRow w.heap.size 3 1 (f 5) X.inputs.length (X.inputs.flatMap encI) := hv 5 (by rw [hops]; kernel_rfl : Region.waitsFor .any ops 38 5 = true)
      obtain ⟨Ai, ci, si⟩ := own_slice_k ri
      have xl := hd 9 21 (by rw [hops]; kernel_rfl : Region.waitsFor .any ops 38 9 = true) (by rw [hops]; kernel_rfl : dstOf ops 9 = some 21) (by simp)
      have rl : wz.ownsRow w.heap.size 78 3 (f 9) X.latches.length (X.latches.flatMap encT) := hv 9 (by rw [hops]; kernel_rfl : Region.waitsFor .any ops 38 9 = true)
      obtain ⟨Al, cl, sl⟩ := own_slice_k rl
      have xo := hd 13 25 (by rw [hops]; kernel_rfl : Region.waitsFor .any ops 38 13 = true) (by rw [hops]; kernel_rfl : dstOf ops 13 = some 25) (by simp)
      have ro : wz.ownsRow w.heap.size 3 1 (f 13) X.outputs.length (X.outputs.flatMap encI) := hv 13 (by rw [hops]; kernel_rfl : Region.waitsFor .any ops 38 13 = true)
      obtain ⟨Ao, co, so⟩ := own_slice_k ro
      have xb := hd 17 29 (by rw [hops]; kernel_rfl : Region.waitsFor .any ops 38 17 = true) (by rw [hops]; kernel_rfl : dstOf ops 17 = some 29) (by simp)
      have rb : wz.ownsRow w.heap.size 3 1 (f 17) X.bads.length (X.bads.flatMap encI) := hv 17 (by rw [hops]; kernel_rfl : Region.waitsFor .any ops 38 17 = true)
      obtain ⟨Ab, cb, sb⟩ := own_slice_k rb
      have xc := hd 21 33 (by rw [hops]; kernel_rfl : Region.waitsFor .any ops 38 21 = true) (by rw [hops]; kernel_rfl : dstOf ops 21 = some 33) (by simp)
      have rc : wz.ownsRow w.heap.size 3 1 (f 21) X.constraints.length (X.constraints.flatMap encI) := hv 21 (by rw [hops]; kernel_rfl : Region.waitsFor .any ops 38 21 = true)
      obtain ⟨Ac, cc, sc⟩ := own_slice_k rc
      have xj := hd 25 37 (by rw [hops]; kernel_rfl : Region.waitsFor .any ops 38 25 = true) (by rw [hops]; kernel_rfl : dstOf ops 25 = some 37) (by simp)
      have rj : wz.ownsRow w.heap.size 22 1 (f 25) vs.length (vs.flatMap encV) := hv 25 (by rw [hops]; kernel_rfl : Region.waitsFor .any ops 38 25 = true)
      obtain ⟨Aj, cj, sj⟩ := own_slice_k rj
      have xf := hd 29 41 (by rw [hops]; kernel_rfl : Region.waitsFor .any ops 38 29 = true) (by rw [hops]; kernel_rfl : dstOf ops 29 = some 41) (by simp)
      have rf : wz.ownsRow w.heap.size 3 1 (f 29) X.fairness.length (X.fairness.flatMap encI) := hv 29 (by rw [hops]; kernel_rfl : Region.waitsFor .any ops 38 29 = true)
      obtain ⟨Af, cf, sf⟩ := own_slice_k rf
      have xa := hd 31 43 (by rw [hops]; kernel_rfl : Region.waitsFor .any ops 38 31 = true) (by rw [hops]; kernel_rfl : dstOf ops 31 = some 43) (by simp)
      have ra : wz.ownsRow w.heap.size 80 3 (f 31) X.ands.length (X.ands.flatMap encT) := hv 31 (by rw [hops]; kernel_rfl : Region.waitsFor .any ops 38 31 = true)
      obtain ⟨Aa, ca, sa⟩ := own_slice_k ra
      have xs := hd 34 46 (by rw [hops]; kernel_rfl : Region.waitsFor .any ops 38 34 = true) (by rw [hops]; kernel_rfl : dstOf ops 34 = some 46) (by simp)
      have rs : wz.ownsRow w.heap.size 97 3 (f 34) X.symbols.length (X.symbols.flatMap encS) := hv 34 (by rw [hops]; kernel_rfl : Region.waitsFor .any ops 38 34 = true)
      obtain ⟨As, cs, ss⟩ := own_slice_k rs
      have xt := hd 37 49 (by rw [hops]; kernel_rfl : Region.waitsFor .any ops 38 37 = true) (by rw [hops]; kernel_rfl : dstOf ops 37 = some 49) (by simp)
      have rt : wz.ownsRow w.heap.size 9 1 (f 37) X.comments.length (X.comments.flatMap encB) := hv 37 (by rw [hops]; kernel_rfl : Region.waitsFor .any ops 38 37 = true)
      obtain ⟨At, ct, st⟩ := own_slice_k rt
      refine wp_val (v := CV.val ⟨f 5, f 9, f 13, f 17, f 21, f 25, f 29, f 31, f 34, f 37⟩ mx) (w' := wz) ?_ (hK _ _ (Below.refl _ _) ⟨⟨f 5, f 9, f 13, f 17, f 21, f 25, f 29, f 31, f 34, f 37⟩, rfl, ⟨ri, rl, ro, rb, rc, rj, rf, ra, rs, rt, ?_⟩⟩ (fun h => absurd h (by decide)))
      · simp only [execOp, List.map_toArray, List.map_cons, List.map_nil, em, xi, xl, xo, xb, xc, xj, xf, xa, xs, xt]
        rw [si, sl, so, sb, sc, sj, sf, sa, ss, st]
        exact run_value (build_circ _ _ _ _ _ _ _ _ _ _ _ _ _ _ _ _ _ _ _ _ _ _ _ _ _ _ _ _ _ _ _ _)
      · simp only [List.pairwise_cons, List.mem_cons, List.not_mem_nil, or_false, List.Pairwise.nil, and_true, forall_eq_or_imp, forall_eq, false_implies, implies_true]
        exact ⟨⟨hsp 5 13 (by decide) (by rw [hops]; kernel_rfl : Region.waitsFor .any ops 38 5 = true) (by rw [hops]; kernel_rfl : Region.waitsFor .any ops 38 13 = true) rfl rfl, hsp 5 17 (by decide) (by rw [hops]; kernel_rfl : Region.waitsFor .any ops 38 5 = true) (by rw [hops]; kernel_rfl : Region.waitsFor .any ops 38 17 = true) rfl rfl, hsp 5 21 (by decide) (by rw [hops]; kernel_rfl : Region.waitsFor .any ops 38 5 = true) (by rw [hops]; kernel_rfl : Region.waitsFor .any ops 38 21 = true) rfl rfl, hsp 5 29 (by decide) (by rw [hops]; kernel_rfl : Region.waitsFor .any ops 38 5 = true) (by rw [hops]; kernel_rfl : Region.waitsFor .any ops 38 29 = true) rfl rfl⟩, ⟨hsp 13 17 (by decide) (by rw [hops]; kernel_rfl : Region.waitsFor .any ops 38 13 = true) (by rw [hops]; kernel_rfl : Region.waitsFor .any ops 38 17 = true) rfl rfl, hsp 13 21 (by decide) (by rw [hops]; kernel_rfl : Region.waitsFor .any ops 38 13 = true) (by rw [hops]; kernel_rfl : Region.waitsFor .any ops 38 21 = true) rfl rfl, hsp 13 29 (by decide) (by rw [hops]; kernel_rfl : Region.waitsFor .any ops 38 13 = true) (by rw [hops]; kernel_rfl : Region.waitsFor .any ops 38 29 = true) rfl rfl⟩, ⟨hsp 17 21 (by decide) (by rw [hops]; kernel_rfl : Region.waitsFor .any ops 38 17 = true) (by rw [hops]; kernel_rfl : Region.waitsFor .any ops 38 21 = true) rfl rfl, hsp 17 29 (by decide) (by rw [hops]; kernel_rfl : Region.waitsFor .any ops 38 17 = true) (by rw [hops]; kernel_rfl : Region.waitsFor .any ops 38 29 = true) rfl rfl⟩, hsp 21 29 (by decide) (by rw [hops]; kernel_rfl : Region.waitsFor .any ops 38 21 = true) (by rw [hops]; kernel_rfl : Region.waitsFor .any ops 38 29 = true) rfl rfl⟩
    | 39, _, ho =>
      simp only [List.getElem?_toArray, List.getElem?_cons_zero, List.getElem?_cons_succ, Option.some.injEq] at ho; subst ho
      refine webStep_of HWB rfl (fun f aC wz hw hd ha hv hsp K hK => ?_)
      refine wp_val (v := .pointer (some ⟨wz.heap.size, 0, none⟩)) (w' := wz.alloc (.cells #[.int .i64 0, .slice none 0 0, .slice none 0 0, .slice none 0 0, .slice none 0 0, .slice none 0 0, .slice none 0 0, .slice none 0 0, .slice none 0 0, .slice none 0 0, .slice none 0 0] 29)) ?_ (hK _ _ ((Below.refl _ _).alloc (Nat.le_refl _) _) ⟨_, rfl, (by have := hw.size; omega), Blk.new _ _ _⟩ (fun h => absurd h (by decide)))
      exact run_value (alloc_circ wz)
    | n + 40, h, _ => exact absurd h (by omega)
  · intro f wz hw hv hsp
    rw [← hw0] at hw
    have e : putAll ops f (List.range 40) ({ tmps := #[.pointer (some ⟨bx, 0, none⟩), V.val C.max, MV, undef, .pointer (some ⟨w.heap.size, 0, none⟩), undef, .pointer (some ⟨w.heap.size + 1, 0, none⟩), undef, undef, undef, undef, undef, undef, undef, undef, undef, undef, undef, undef, undef, undef, undef, undef, undef, undef, undef, undef, undef, undef, undef, undef, undef, undef, undef, undef, undef, undef, undef, undef, undef, undef, undef, undef, undef, undef, undef, undef, undef, undef, undef, undef, undef, undef, undef, undef, undef, undef, undef, undef, undef, undef, undef, undef, undef, undef, undef, undef, undef, undef, undef, undef, undef, undef, undef, undef, undef, undef, undef, undef, undef, undef, undef, undef, undef, undef, undef, undef, undef, undef, undef, undef, undef, undef, undef], defers := [] } : Act) = ({ tmps := #[.pointer (some ⟨bx, 0, none⟩), V.val C.max, MV, undef, .pointer (some ⟨w.heap.size, 0, none⟩), undef, .pointer (some ⟨w.heap.size + 1, 0, none⟩), f 39, undef, undef, undef, undef, f 0, f 1, f 2, f 3, f 4, f 5, f 6, f 7, f 8, f 9, f 10, f 11, f 12, f 13, f 14, f 15, f 16, f 17, f 18, f 19, f 20, f 21, f 22, f 23, f 24, f 25, f 26, f 27, f 28, f 29, f 30, f 31, f 32, f 33, f 34, f 35, f 36, f 37, f 38, undef, undef, undef, undef, undef, undef, undef, undef, undef, undef, undef, undef, undef, undef, undef, undef, undef, undef, undef, undef, undef, undef, undef, undef, undef, undef, undef, undef, undef, undef, undef, undef, undef, undef, undef, undef, undef, undef, undef, undef, undef, undef, undef], defers := [] } : Act) := by rw [hops]; kernel_rfl
    rw [e]
    clear e
    obtain ⟨V', e38, hc⟩ : ∃ V' : CV, f 38 = V'.val mx ∧ CopR wz w.heap.size X vs V' := hv 38 (by omega)
    obtain ⟨bb, e39, hbB, hblk⟩ : ∃ b, f 39 = .pointer (some ⟨b, 0, none⟩) ∧ w.heap.size + 2 ≤ b ∧ Blk wz b 29 #[.int .i64 0, .slice none 0 0, .slice none 0 0, .slice none 0 0, .slice none 0 0, .slice none 0 0, .slice none 0 0, .slice none 0 0, .slice none 0 0, .slice none 0 0, .slice none 0 0] := hv 39 (by omega)
    have hone : (V'.cells mx).all (·.oneCell') = true := by
      obtain ⟨_, _, e0⟩ := own_slice_k hc.i
      obtain ⟨_, _, e1⟩ := own_slice_k hc.l
      obtain ⟨_, _, e2⟩ := own_slice_k hc.o
      obtain ⟨_, _, e3⟩ := own_slice_k hc.b
      obtain ⟨_, _, e4⟩ := own_slice_k hc.c
      obtain ⟨_, _, e5⟩ := own_slice_k hc.j
      obtain ⟨_, _, e6⟩ := own_slice_k hc.f
      obtain ⟨_, _, e7⟩ := own_slice_k hc.a
      obtain ⟨_, _, e8⟩ := own_slice_k hc.s
      obtain ⟨_, _, e9⟩ := own_slice_k hc.t
      simp only [CV.cells]
      rw [e0, e1, e2, e3, e4, e5, e6, e7, e8, e9]
      simp [Value.oneCell']
    have ho40 : ∃ o, ops[40]? = some o ∧ o.guard = none ∧ o.op = .store 29 (.tmp 7) (.tmp 50) ∧ o.dst = none := by rw [hops]; exact ⟨_, rfl, rfl, rfl, rfl⟩
    obtain ⟨o, ho1, ho2, ho3, ho4⟩ := ho40
    refine wpOp_of ho1 ho2 ?_
    refine wp_store_row 29 (.tmp 7) (.tmp 50) ho3 bb (V'.cells mx) (by exact e39) (by exact e38) 29 _ hblk (by kernel_rfl) rfl hone ?_
    rw [ho4]
    clear ho1 ho2 ho3 ho4 hops HBA HWB HN0 HN2 HN4
    obtain ⟨w3, hw3⟩ : ∃ w3, w3 = wz.setRow bb (V'.cells mx) := ⟨_, rfl⟩
    rw [← hw3]
    have hb3 : Blk w3 bb 29 (V'.cells mx) := by rw [hw3]; exact setRow_heap wz bb _ (V'.cells mx) _ _ hblk
    have hoth : ∀ k, k ≠ bb → w3.heap[k]? = wz.heap[k]? := fun k hk => by
      rw [hw3]
      simp only [World.setRow, Array.getElem?_modify]
      rw [if_neg (fun e => hk e.symm)]
    have hsz3 : w3.heap.size = wz.heap.size := by rw [hw3]; simp
    have hne : ∀ {t : TypeId} {k n : Nat} {v : Value} {xs : List Value}, wz.ownsRow w.heap.size t k v n xs → t ≠ 29 → w3.ownsRow w.heap.size t k v n xs := fun ho ht =>
      own_of_block ho fun g hg => hoth g (fun e => own_blk_ne ho hblk ht (by rw [hg, e]))
    have hbel : Below w.heap.size w w3 := by
      have h1 := bt hb0 (by omega) (hw.mono (Nat.le_refl _))
      exact ⟨by rw [hw3]; exact h1.os, by rw [hw3]; exact h1.tape, by rw [hw3]; exact h1.output, by rw [hsz3]; exact h1.size, fun k hk => (hoth k (by omega)).trans (h1.block k hk)⟩
    have hz3 : Blk w3 (w.heap.size + 1) 29 #[.int .i64 0, .slice none 0 0, .slice none 0 0, .slice none 0 0, .slice none 0 0, .slice none 0 0, .slice none 0 0, .slice none 0 0, .slice none 0 0, .slice none 0 0, .slice none 0 0] := by
      have h1 : Blk w0 (w.heap.size + 1) 29 #[.int .i64 0, .slice none 0 0, .slice none 0 0, .slice none 0 0, .slice none 0 0, .slice none 0 0, .slice none 0 0, .slice none 0 0, .slice none 0 0, .slice none 0 0, .slice none 0 0] := by
        rw [hw0]
        have := Blk.new (w.alloc (.cells (V.cells C.max) 29)) 29 #[.int .i64 0, .slice none 0 0, .slice none 0 0, .slice none 0 0, .slice none 0 0, .slice none 0 0, .slice none 0 0, .slice none 0 0, .slice none 0 0, .slice none 0 0, .slice none 0 0]
        simp only [alloc_size] at this
        exact this.drew
      exact (hoth _ (by omega)).trans (h1.below hw h1.lt)
    have hcb3 : Blk w3 w.heap.size 29 (V.cells C.max) := (hoth _ (by omega)).trans (hx0.below hw hx0.lt)
    have hBL : BL w w3 bb mx (V.cells C.max) V' X (List.replicate nL (0, 0, 0)) vs (five V' X) := by
      have hl := hne hc.l (by decide)
      have hj := hne hc.j (by decide)
      rw [flat_vals] at hj
      refine ⟨hbel, hbB, hcb3, hb3, hz3, fam_of_pair (fun p hp => ?_) hc.apart, hj, ?_, hne hc.a (by decide), hne hc.s (by decide), hne hc.t (by decide)⟩
      · simp only [List.mem_cons, List.not_mem_nil, or_false] at hp
        rcases hp with rfl | rfl | rfl | rfl | rfl
        · rw [← flat_ints]; exact hne hc.i (by decide)
        · rw [← flat_ints]; exact hne hc.o (by decide)
        · rw [← flat_ints]; exact hne hc.b (by decide)
        · rw [← flat_ints]; exact hne hc.c (by decide)
        · rw [← flat_ints]; exact hne hc.f (by decide)
      · have e : X.latches = List.replicate nL (0, 0, 0) := by rw [← hX, ← hnL]; rfl
        rwa [e] at hl
    have HBL := Lib.hid hBL
    have HONE := Lib.hid hone
    have HIN2 : Hid (∀ wz, Below w.heap.size w wz → C.In wz V ∧ Nums wz g M) := Lib.hid (fun wz hb => ⟨h.below hb, Blk.below hM hb (Blk.lt hM)⟩)
    have HJ3 := Lib.hid hj3
    have HJ2 := Lib.hid hj2
    have HVL := Lib.hid hvl
    have HVJ := Lib.hid hvj
    have HMV := Lib.hid hMV
    have HNL := Lib.hid hnL
    have HNN := Lib.hid hn
    have HNJ := Lib.hid hnJ
    have HX := Lib.hid hX
    have HVS := Lib.hid hvs
    have HR := Lib.hid hr
    have HK := Lib.hid hk
    have HML := Lib.hid hMl
    have HN1 := Lib.hid hn1
    have HLIT := Lib.hid hlit
    rw [e39]
    clear hw3 hsz3 hne hoth hbel hb3 hz3 hv hsp hblk hc e38 hone hw HCELL HIN HBD HMZ HSZ hx0 hb0 hs0 hw0 hcb3 hBL hj3 hM h hb hlit hk hr hrm hX hvs hbB hn
    have HC : Hid (∀ wx, Blk wx w.heap.size 29 (V.cells C.max) → wx.cell? ⟨w.heap.size, 2, none⟩ = some (.slice AL nL cL) ∧ wx.cell? ⟨w.heap.size, 6, none⟩ = some (.slice AJ nJ cJ)) := Lib.hid (fun wx hb => by
      have c2 := hb.cell 2
      have c6 := hb.cell 6
      simp only [CV.cells, List.getElem?_toArray, List.getElem?_cons_zero, List.getElem?_cons_succ] at c2 c6
      rw [HVL.out] at c2
      rw [HVJ.out] at c6
      exact ⟨c2, c6⟩)
    obtain ⟨c2, c6⟩ := HC.out _ HBL.out.cbx
    clear hvl hvj hj2
    obtain ⟨LN, hLN⟩ : ∃ N, (bldC C b M).latches = N := ⟨_, rfl⟩
    have HLN := Lib.hid hLN
    have HLL : Hid (LN.length = nL) := Lib.hid (by rw [← hLN, ← HNL.out]; simp [bldC])
    have HLG : Hid (∀ (q : Nat) (x : Tri), C.latches[q]? = some x → LN[q]? = some (mvX M x.1, mvX M x.2.1, mvX M x.2.2)) := Lib.hid (fun q x hx => by rw [← hLN]; show (C.latches.map _)[q]? = _; rw [List.getElem?_map, hx]; rfl)
    clear hLN
    have hbL : nL ≤ 16384 := by rw [← HNL.out]; exact HR.out.nl
    have hbJ : nJ ≤ 16384 := by rw [← HNJ.out]; exact HR.out.nj
    have HJS := Lib.hid hjs
    clear hjs
    have HMX : Hid (0 ≤ C.max) := Lib.hid HR.out.m0
    go_wp2
    clear c2 c6
    go_loopg [54] nL (fun j iv wx => ∃ k : Nat, k ≤ nL ∧ j = nL - k ∧ iv = .int .i64 k ∧ BL w wx bb mx (V.cells C.max) V' X (LN.take k ++ List.replicate (nL - k) (0, 0, 0)) vs (five V' X))
    case atStart => exact ⟨0, Nat.zero_le _, rfl, rfl, by simpa using HBL.out⟩
    case round =>
      obtain ⟨k, hk, hgk, rfl, ht⟩ := hrel
      subst hgk
      have HT := Lib.hid ht
      clear ht HBL
      by_cases hlt : k < nL
      · obtain ⟨x, hx⟩ : ∃ x, C.latches[k]? = some x := ⟨_, List.getElem?_eq_getElem (by rw [HNL.out]; exact hlt)⟩
        obtain ⟨⟨p1, p2⟩, ⟨q1, q2⟩, r1⟩ := HR.out.l x (List.mem_of_getElem? hx)
        obtain ⟨A', c', eA', _, _, hrun⟩ := (HIN2.out _ HT.out.below).1.l
        rw [HVL.out] at eA'
        injection eA' with g1 g2 g3
        subst g1
        clear g2 g3
        obtain ⟨lb, off, e, hlb, hcell⟩ := hrun k x hx
        subst e
        have HLX := Lib.hid (HLG.out k x hx)
        obtain ⟨x0, x1, x2⟩ := x
        have i0 := hcell 0 _ rfl
        have i1 := hcell 1 _ rfl
        have i2 := hcell 2 _ rfl
        simp only [Nat.add_zero, ← Nat.add_assoc] at i0 i1 i2
        simp only at p1 p2 q1 q2 r1 HLX
        have hbl : Below wr.heap.size wr ((wr.alloc (.cells #[.int .i64 x0, .int .i64 x1, .int .i64 x2] 78)).drew) := ((Below.refl _ _).alloc (Nat.le_refl _) _).drew
        have HLB : Hid (Blk ((wr.alloc (.cells #[.int .i64 x0, .int .i64 x1, .int .i64 x2] 78)).drew) wr.heap.size 78 #[.int .i64 x0, .int .i64 x1, .int .i64 x2]) := Lib.hid ((Blk.new wr 78 #[.int .i64 x0, .int .i64 x1, .int .i64 x2]).drew)
        obtain ⟨WD, hWD⟩ : ∃ WD, (wr.alloc (.cells #[.int .i64 x0, .int .i64 x1, .int .i64 x2] 78)).drew = WD := ⟨_, rfl⟩
        rw [hWD] at hbl HLB
        have HWD := Lib.hid hWD
        have HT3 := Lib.hid (HT.out.on hbl)
        obtain ⟨lb2, hlb2⟩ : ∃ z, wr.heap.size = z := ⟨_, rfl⟩
        rw [hlb2] at HLB
        have HL2 := Lib.hid hlb2
        have hll := fillH_len (d := ((0, 0, 0) : Tri)) HLL.out hk
        obtain ⟨gl, capl, hVl, hgB, hgl, _, hcl, hfl, _⟩ := own_cells3 HT3.out.l (by rw [hll]; omega)
        rw [hll] at hVl
        have cb2 := HT3.out.box.cell 2
        simp only [CV.cells, List.getElem?_toArray, List.getElem?_cons_zero, List.getElem?_cons_succ] at cb2
        rw [hVl] at cb2
        obtain ⟨o0, o1, o2⟩ := hcl k _ (fillH_get HLL.out hlt)
        have f0 := hfl (k * 3)
        have f1 := hfl (k * 3 + 1)
        have f2 := hfl (k * 3 + 2)
        have hnn := HNN.out
        have hm0 := HMX.out
        have HO0 := Lib.hid (of_any WD g n M x0 (HIN2.out _ HT3.out.below).2 HML.out HK.out (by omega) (by omega) HN1.out)
        have HO1 := Lib.hid (of_any WD g n M x1 (HIN2.out _ HT3.out.below).2 HML.out HK.out q1 (by omega) HN1.out)
        have HO2 := Lib.hid (of_any WD g n M x2 (HIN2.out _ HT3.out.below).2 HML.out HK.out (by omega) (by omega) HN1.out)
        rw [HMV.out] at HO0 HO1 HO2
        obtain ⟨y0, hy0⟩ : ∃ y, mvX M x0 = y := ⟨_, rfl⟩
        obtain ⟨y1, hy1⟩ : ∃ y, mvX M x1 = y := ⟨_, rfl⟩
        obtain ⟨y2, hy2⟩ : ∃ y, mvX M x2 = y := ⟨_, rfl⟩
        rw [hy0] at HO0 HLX
        rw [hy1] at HO1 HLX
        rw [hy2] at HO2 HLX
        have HN2 := Lib.hid (HT3.out.lat hVl (by rw [hll]; exact hlt) (y0, y1, y2))
        rw [fillH_set HLL.out HLX.out] at HN2
        have hbld : ∀ (u v t : Int) (wz : World), (Instr.build 78 #[(0, .int .i64 u), (1, .int .i64 v), (2, .int .i64 t)]).run Try.prog wz = .ok (.agg #[.int .i64 u, .int .i64 v, .int .i64 t]) wz := fun u v t wz => run_build wz _ _ _ (by kernel_rfl)
        have hk0 : (0 : Int) ≤ (k : Int) := by omega
        have hk1 : (k : Int) < (nL : Int) := by omega
        clear hx hrun hcell hlb hbl hWD hlb2 hll hVl hcl hfl hnn hm0 hy0 hy1 hy2 p1 p2 q1 q2 r1
        go_upto_region 5 with (fail)
        refine wp_region_T (by kernel_rfl) (fun w' => w'.cell? ⟨bb, 2, none⟩ = some (.slice (some ⟨gl, 0, none⟩) nL capl) ∧ w'.cell? ⟨lb2, 0, none⟩ = some (.int .i64 x0) ∧ w'.cell? ⟨lb2, 1, none⟩ = some (.int .i64 x1) ∧ w'.cell? ⟨lb2, 2, none⟩ = some (.int .i64 x2)) 17 ?_
        rw [HWD.out, HL2.out]
        have hHeld : WD.cell? ⟨bb, 2, none⟩ = some (.slice (some ⟨gl, 0, none⟩) nL capl) ∧ WD.cell? ⟨lb2, 0, none⟩ = some (.int .i64 x0) ∧ WD.cell? ⟨lb2, 1, none⟩ = some (.int .i64 x1) ∧ WD.cell? ⟨lb2, 2, none⟩ = some (.int .i64 x2) := ⟨cb2, HLB.out.cell 0, HLB.out.cell 1, HLB.out.cell 2⟩
        clear i0 i1 i2
        refine wpAnyT_take (i := 0) (oi := { dst := some 59, op := Op.fieldAddr 29 (Operand.tmp 7) 2, type := 0, pos := "build.go:70", after := #[], guard := none }) (v := ?v0r5q1) rfl (by kernel_rfl) (fun _ _ _ h => h) (by rfl) hHeld ?h0r5q1 ?_
        case h0r5q1 => (intro w' hSw; (try dsimp only at hSw); go_simp; try with_reducible rfl)
        (try simp only [Act.put, List.setIfInBounds_toArray, List.set_cons_zero, List.set_cons_succ])
        refine wpAnyT_take (i := 1) (oi := { dst := some 60, op := Op.load 23 (Operand.tmp 59), type := 23, pos := "build.go:70", after := #[{ on := 0, ground := Ground.data }], guard := none }) (v := ?v1r5q1) rfl (by kernel_rfl) (fun _ _ _ h => h) (by rfl) hHeld ?h1r5q1 ?_
        case h1r5q1 => (intro w' hSw; (try dsimp only at hSw); go_simp; try with_reducible rfl)
        (try simp only [Act.put, List.setIfInBounds_toArray, List.set_cons_zero, List.set_cons_succ])
        refine wpAnyT_take (i := 2) (oi := { dst := some 61, op := Op.move (Operand.tmp 8), type := 3, pos := "build.go:70", after := #[], guard := none }) (v := ?v2r5q1) rfl (by kernel_rfl) (fun _ _ _ h => h) (by rfl) hHeld ?h2r5q1 ?_
        case h2r5q1 => (intro w' hSw; (try dsimp only at hSw); go_simp; try with_reducible rfl)
        (try simp only [Act.put, List.setIfInBounds_toArray, List.set_cons_zero, List.set_cons_succ])
        refine wpAnyT_take (i := 3) (oi := { dst := some 62, op := Op.move (Operand.tmp 2), type := 86, pos := "build.go:70", after := #[], guard := none }) (v := ?v3r5q1) rfl (by kernel_rfl) (fun _ _ _ h => h) (by rfl) hHeld ?h3r5q1 ?_
        case h3r5q1 => (intro w' hSw; (try dsimp only at hSw); go_simp; try with_reducible rfl)
        (try simp only [Act.put, List.setIfInBounds_toArray, List.set_cons_zero, List.set_cons_succ])
        refine wpAnyT_take (i := 4) (oi := { dst := some 63, op := Op.fieldAddr 78 (Operand.tmp 9) 0, type := 0, pos := "build.go:70", after := #[], guard := none }) (v := ?v4r5q1) rfl (by kernel_rfl) (fun _ _ _ h => h) (by rfl) hHeld ?h4r5q1 ?_
        case h4r5q1 => (intro w' hSw; (try dsimp only at hSw); go_simp; try with_reducible rfl)
        (try simp only [Act.put, List.setIfInBounds_toArray, List.set_cons_zero, List.set_cons_succ])
        refine wpAnyT_take (i := 5) (oi := { dst := some 64, op := Op.load 3 (Operand.tmp 63), type := 3, pos := "build.go:70", after := #[{ on := 4, ground := Ground.data }], guard := none }) (v := ?v5r5q1) rfl (by kernel_rfl) (fun _ _ _ h => h) (by rfl) hHeld ?h5r5q1 ?_
        case h5r5q1 => (intro w' hSw; (try dsimp only at hSw); go_simp; try with_reducible rfl)
        (try simp only [Act.put, List.setIfInBounds_toArray, List.set_cons_zero, List.set_cons_succ])
        refine wpAnyT_take (i := 7) (oi := { dst := some 66, op := Op.move (Operand.tmp 2), type := 86, pos := "build.go:70", after := #[], guard := none }) (v := ?v7r5q2) rfl (by kernel_rfl) (fun _ _ _ h => h) (by rfl) hHeld ?h7r5q2 ?_
        case h7r5q2 => (intro w' hSw; (try dsimp only at hSw); go_simp; try with_reducible rfl)
        (try simp only [Act.put, List.setIfInBounds_toArray, List.set_cons_zero, List.set_cons_succ])
        refine wpAnyT_take (i := 8) (oi := { dst := some 67, op := Op.fieldAddr 78 (Operand.tmp 9) 1, type := 0, pos := "build.go:70", after := #[], guard := none }) (v := ?v8r5q2) rfl (by kernel_rfl) (fun _ _ _ h => h) (by rfl) hHeld ?h8r5q2 ?_
        case h8r5q2 => (intro w' hSw; (try dsimp only at hSw); go_simp; try with_reducible rfl)
        (try simp only [Act.put, List.setIfInBounds_toArray, List.set_cons_zero, List.set_cons_succ])
        refine wpAnyT_take (i := 9) (oi := { dst := some 68, op := Op.load 3 (Operand.tmp 67), type := 3, pos := "build.go:70", after := #[{ on := 8, ground := Ground.data }], guard := none }) (v := ?v9r5q2) rfl (by kernel_rfl) (fun _ _ _ h => h) (by rfl) hHeld ?h9r5q2 ?_
        case h9r5q2 => (intro w' hSw; (try dsimp only at hSw); go_simp; try with_reducible rfl)
        (try simp only [Act.put, List.setIfInBounds_toArray, List.set_cons_zero, List.set_cons_succ])
        refine wpAnyT_take (i := 11) (oi := { dst := some 70, op := Op.move (Operand.tmp 2), type := 86, pos := "build.go:70", after := #[], guard := none }) (v := ?v11r5q3) rfl (by kernel_rfl) (fun _ _ _ h => h) (by rfl) hHeld ?h11r5q3 ?_
        case h11r5q3 => (intro w' hSw; (try dsimp only at hSw); go_simp; try with_reducible rfl)
        (try simp only [Act.put, List.setIfInBounds_toArray, List.set_cons_zero, List.set_cons_succ])
        refine wpAnyT_take (i := 12) (oi := { dst := some 71, op := Op.fieldAddr 78 (Operand.tmp 9) 2, type := 0, pos := "build.go:70", after := #[], guard := none }) (v := ?v12r5q3) rfl (by kernel_rfl) (fun _ _ _ h => h) (by rfl) hHeld ?h12r5q3 ?_
        case h12r5q3 => (intro w' hSw; (try dsimp only at hSw); go_simp; try with_reducible rfl)
        (try simp only [Act.put, List.setIfInBounds_toArray, List.set_cons_zero, List.set_cons_succ])
        refine wpAnyT_take (i := 13) (oi := { dst := some 72, op := Op.load 3 (Operand.tmp 71), type := 3, pos := "build.go:70", after := #[{ on := 12, ground := Ground.data }], guard := none }) (v := ?v13r5q3) rfl (by kernel_rfl) (fun _ _ _ h => h) (by rfl) hHeld ?h13r5q3 ?_
        case h13r5q3 => (intro w' hSw; (try dsimp only at hSw); go_simp; try with_reducible rfl)
        (try simp only [Act.put, List.setIfInBounds_toArray, List.set_cons_zero, List.set_cons_succ])
        refine wpAnyT_one (i := 6) (o := { dst := some 65, op := Op.call { callee := Callee.value (Operand.func 87), args := #[Operand.tmp 62, Operand.tmp 64], argTypes := #[86, 3] }, type := 3, pos := "build.go:70", after := #[{ on := 3, ground := Ground.data }, { on := 5, ground := Ground.data }], guard := none }) rfl (by kernel_rfl) (fun K hK => ?_)
        go_simp
        go_at_call 87
        refine HO0.out.mono ?_
        rintro e w5 ⟨rfl, hw5⟩
        rw [hw5]
        clear hw5 w5
        refine hK.out _ _ (fun _ => hHeld) ?_
        clear hK K
        (try simp only [Act.put, List.setIfInBounds_toArray, List.set_cons_zero, List.set_cons_succ])
        refine wpAnyT_one (i := 10) (o := { dst := some 69, op := Op.call { callee := Callee.value (Operand.func 87), args := #[Operand.tmp 66, Operand.tmp 68], argTypes := #[86, 3] }, type := 3, pos := "build.go:70", after := #[{ on := 7, ground := Ground.data }, { on := 9, ground := Ground.data }, { on := 6, ground := Ground.chain }], guard := none }) rfl (by kernel_rfl) (fun K hK => ?_)
        go_simp
        go_at_call 87
        refine HO1.out.mono ?_
        rintro e w5 ⟨rfl, hw5⟩
        rw [hw5]
        clear hw5 w5
        refine hK.out _ _ (fun _ => hHeld) ?_
        clear hK K
        (try simp only [Act.put, List.setIfInBounds_toArray, List.set_cons_zero, List.set_cons_succ])
        refine wpAnyT_one (i := 14) (o := { dst := some 73, op := Op.call { callee := Callee.value (Operand.func 87), args := #[Operand.tmp 70, Operand.tmp 72], argTypes := #[86, 3] }, type := 3, pos := "build.go:70", after := #[{ on := 11, ground := Ground.data }, { on := 13, ground := Ground.data }, { on := 10, ground := Ground.chain }], guard := none }) rfl (by kernel_rfl) (fun K hK => ?_)
        go_simp
        go_at_call 87
        refine HO2.out.mono ?_
        rintro e w5 ⟨rfl, hw5⟩
        rw [hw5]
        clear hw5 w5
        refine hK.out _ _ (fun _ => hHeld) ?_
        clear hK K
        (try simp only [Act.put, List.setIfInBounds_toArray, List.set_cons_zero, List.set_cons_succ])
        refine wpAnyT_take (i := 15) (oi := { dst := some 74, op := Op.build 78 #[(0, Operand.tmp 65), (1, Operand.tmp 69), (2, Operand.tmp 73)], type := 78, pos := "build.go:70", after := #[{ on := 6, ground := Ground.data }, { on := 10, ground := Ground.data }, { on := 14, ground := Ground.data }], guard := none }) (v := ?v15r5q4) rfl (by kernel_rfl) (fun _ _ _ h => h) (by rfl) hHeld ?h15r5q4 ?_
        case h15r5q4 => (intro w' hSw; (try dsimp only at hSw); go_simp; try with_reducible rfl)
        (try simp only [Act.put, List.setIfInBounds_toArray, List.set_cons_zero, List.set_cons_succ])
        refine wpAnyT_take (i := 16) (oi := { dst := some 75, op := Op.indexAddr 23 (Operand.tmp 60) (Operand.tmp 61), type := 0, pos := "build.go:70", after := #[{ on := 1, ground := Ground.data }, { on := 2, ground := Ground.data }, { on := 0, ground := Ground.phase }, { on := 1, ground := Ground.phase }, { on := 2, ground := Ground.phase }, { on := 3, ground := Ground.phase }, { on := 4, ground := Ground.phase }, { on := 5, ground := Ground.phase }, { on := 6, ground := Ground.phase }, { on := 7, ground := Ground.phase }, { on := 8, ground := Ground.phase }, { on := 9, ground := Ground.phase }, { on := 10, ground := Ground.phase }, { on := 11, ground := Ground.phase }, { on := 12, ground := Ground.phase }, { on := 13, ground := Ground.phase }, { on := 14, ground := Ground.phase }, { on := 15, ground := Ground.phase }], guard := none }) (v := ?v16r5q4) rfl (by kernel_rfl) (fun _ _ _ h => h) (by rfl) hHeld ?h16r5q4 ?_
        case h16r5q4 => (intro w' hSw; (try dsimp only at hSw); go_simp; try with_reducible rfl)
        (try simp only [Act.put, List.setIfInBounds_toArray, List.set_cons_zero, List.set_cons_succ])
        clear hHeld
        refine wpAnyT_one (i := 17) (o := { dst := none, op := Op.store 78 (Operand.tmp 75) (Operand.tmp 74), type := 0, pos := "build.go:70", after := #[{ on := 16, ground := Ground.data }, { on := 15, ground := Ground.data }, { on := 14, ground := Ground.chain }, { on := 0, ground := Ground.phase }, { on := 1, ground := Ground.phase }, { on := 2, ground := Ground.phase }, { on := 3, ground := Ground.phase }, { on := 4, ground := Ground.phase }, { on := 5, ground := Ground.phase }, { on := 6, ground := Ground.phase }, { on := 7, ground := Ground.phase }, { on := 8, ground := Ground.phase }, { on := 9, ground := Ground.phase }, { on := 10, ground := Ground.phase }, { on := 11, ground := Ground.phase }, { on := 12, ground := Ground.phase }, { on := 13, ground := Ground.phase }, { on := 14, ground := Ground.phase }, { on := 15, ground := Ground.phase }], guard := none }) rfl (by kernel_rfl) (fun K hK => ?_)
        go_simp
        refine hK.out _ _ (fun h => absurd h (by decide)) ?_
        clear hK K
        (try simp only [Act.put, List.setIfInBounds_toArray, List.set_cons_zero, List.set_cons_succ])
        refine wpAnyT_done (by kernel_rfl) ?_
        go_wp2
        go_roundg (nL - (k + 1))
        case measure => omega
        case rel => exact ⟨k + 1, by omega, rfl, by go_num, HN2.out⟩
      · have hke : nL = k := by omega
        have HB2 : Hid (BL w wr bb mx (V.cells C.max) V' X LN vs (five V' X)) := Lib.hid (by
          have := HT.out
          rw [hke, Nat.sub_self, List.replicate_zero, List.append_nil, List.take_of_length_le (by rw [HLL.out, hke]; exact Nat.le_refl _)] at this
          exact this)
        have hk1 : ¬ (k : Int) < (nL : Int) := by omega
        clear HT hke
        obtain ⟨c2, c6⟩ := HC.out _ HB2.out.cbx
        go_wp2
        clear c2 c6
        have HRJ : Hid (∀ zs ∈ C.justice, ∀ l ∈ zs, LitOk C l) := Lib.hid HR.out.j
        obtain ⟨JN, hJN⟩ : ∃ N, (bldC C b M).justice = N := ⟨_, rfl⟩
        have HJN := Lib.hid hJN
        have HJL : Hid (JN.length = nJ) := Lib.hid (by rw [← hJN, ← HNJ.out]; simp [bldC])
        have HJG : Hid (∀ (q : Nat) (zs : List Int), C.justice[q]? = some zs → JN[q]? = some (zs.map (mvX M))) := Lib.hid (fun q zs hz => by rw [← hJN]; show (C.justice.map _)[q]? = _; rw [List.getElem?_map, hz]; rfl)
        have HVN : Hid (vs.length = nJ) := Lib.hid (by rw [← HVS.out]; simp)
        clear hJN
        go_loopg [80] nJ (fun j iv wx => ∃ (k : Nat) (us : List Value), k ≤ nJ ∧ j = nJ - k ∧ iv = .int .i64 k ∧ us.length = k ∧ BL w wx bb mx (V.cells C.max) V' X LN (us ++ vs.drop k) (five V' X ++ us.zip JN))
        case atStart => exact ⟨0, [], Nat.zero_le _, rfl, rfl, rfl, by simpa using HB2.out⟩
        case round =>
          obtain ⟨k, us, hk, hgk, rfl, hus, ht⟩ := hrel
          subst hgk
          have HT := Lib.hid ht
          have HUS := Lib.hid hus
          clear ht HB2 hus
          by_cases hlt : k < nJ
          · have hin := (HIN2.out _ HT.out.below).1.j
            obtain ⟨zs, hzs⟩ : ∃ zs, C.justice[k]? = some zs := ⟨_, List.getElem?_eq_getElem (by rw [HNJ.out]; exact hlt)⟩
            obtain ⟨vj2, j1, j2, j3⟩ := hin
            obtain ⟨A', c', eA', _, _, hrun⟩ := j1
            rw [HVJ.out] at eA'
            injection eA' with g1 g2 g3
            subst g1
            clear g2 g3
            obtain ⟨u, hu⟩ : ∃ u, vj2[k]? = some u := ⟨_, List.getElem?_eq_getElem (by rw [j2, HNJ.out]; exact hlt)⟩
            obtain ⟨jb, off, e, hjb, hcell⟩ := hrun k u hu
            subst e
            have i0 := hcell 0 _ rfl
            simp only [Nat.mul_one, Nat.add_zero] at i0
            have hrow := j3 k u zs hu hzs
            have hrow2 := hrow
            obtain ⟨Au, cu, hue, _⟩ := hrow2
            have hbl : Below wr.heap.size wr wr.drew := (Below.refl _ _).drew
            have HT3 := Lib.hid (HT.out.on hbl)
            have HALL := Lib.hid (all_any wr.drew g n M u zs (HIN2.out _ HT3.out.below).2 HML.out HK.out HN1.out (hrow.below hbl) (HJS.out zs (List.mem_of_getElem? hzs)) (fun l hl => by
              have := HRJ.out zs (List.mem_of_getElem? hzs) l hl
              unfold LitOk at this
              have := HMX.out
              have := HNN.out
              omega))
            rw [HMV.out] at HALL
            have HZL := Lib.hid (HJS.out zs (List.mem_of_getElem? hzs))
            have hll : (us ++ vs.drop k).length = nJ := by rw [List.length_append, List.length_drop, HUS.out, HVN.out]; omega
            have hjo := HT3.out.j
            rw [hll] at hjo
            obtain ⟨gj, capj, hVj, hgB, hgl, _, hcj, hfj, _⟩ := own_cells_v hjo (by omega)
            have cb6 := HT.out.box.cell 6
            simp only [CV.cells, List.getElem?_toArray, List.getElem?_cons_zero, List.getElem?_cons_succ] at cb6
            rw [hVj] at cb6
            have HVJ2 := Lib.hid hVj
            obtain ⟨old, hold⟩ : ∃ o, (us ++ vs.drop k)[k]? = some o := ⟨_, List.getElem?_eq_getElem (by rw [hll]; exact hlt)⟩
            have HOLD : Hid (∀ w5, Below wr.drew.heap.size wr.drew w5 → w5.cell? ⟨bb, 6, none⟩ = some (.slice (some ⟨gj, 0, none⟩) nJ capj) ∧ w5.cell? ⟨gj, k, none⟩ = some old ∧ w5.frozen? ⟨gj, k, none⟩ = false) := Lib.hid (fun w5 hb5 =>
              ⟨(hb5.cell (p := ⟨bb, 6, none⟩) HT3.out.box.lt).trans cb6, (hb5.cell (p := ⟨gj, k, none⟩) hgl).trans (hcj k old hold), (hb5.frozen (p := ⟨gj, k, none⟩) hgl).trans (hfj k)⟩)
            have HST : Hid ((us ++ vs.drop k).length = nJ ∧ JN[k]? = some (zs.map (mvX M))) := Lib.hid ⟨hll, HJG.out k zs hzs⟩
            have hk0 : (0 : Int) ≤ (k : Int) := by omega
            have hk1 : (k : Int) < (nJ : Int) := by omega
            subst hue
            clear hzs j2 j3 hrun hu hcell hjb hrow hbl hll hjo hVj hcj hfj hold cb6
            go_upto_region 10 with (fail)
            refine wp_region_T (by kernel_rfl) (fun w' => w'.cell? ⟨bb, 6, none⟩ = some (.slice (some ⟨gj, 0, none⟩) nJ capj)) 7 ?_
            have hHeld := (HOLD.out _ (Below.refl _ _)).1
            refine wpAnyT_take (i := 0) (oi := { dst := some 85, op := Op.fieldAddr 29 (Operand.tmp 7) 6, type := 0, pos := "build.go:73", after := #[], guard := none }) (v := ?v0r10q5) rfl (by kernel_rfl) (fun _ _ _ h => h) (by rfl) hHeld ?h0r10q5 ?_
            case h0r10q5 => (intro w' hSw; (try dsimp only at hSw); go_simp; try with_reducible rfl)
            (try simp only [Act.put, List.setIfInBounds_toArray, List.set_cons_zero, List.set_cons_succ])
            refine wpAnyT_take (i := 1) (oi := { dst := some 86, op := Op.load 24 (Operand.tmp 85), type := 24, pos := "build.go:73", after := #[{ on := 0, ground := Ground.data }], guard := none }) (v := ?v1r10q5) rfl (by kernel_rfl) (fun _ _ _ h => h) (by rfl) hHeld ?h1r10q5 ?_
            case h1r10q5 => (intro w' hSw; (try dsimp only at hSw); go_simp; try with_reducible rfl)
            (try simp only [Act.put, List.setIfInBounds_toArray, List.set_cons_zero, List.set_cons_succ])
            refine wpAnyT_take (i := 2) (oi := { dst := some 87, op := Op.move (Operand.tmp 10), type := 3, pos := "build.go:73", after := #[], guard := none }) (v := ?v2r10q5) rfl (by kernel_rfl) (fun _ _ _ h => h) (by rfl) hHeld ?h2r10q5 ?_
            case h2r10q5 => (intro w' hSw; (try dsimp only at hSw); go_simp; try with_reducible rfl)
            (try simp only [Act.put, List.setIfInBounds_toArray, List.set_cons_zero, List.set_cons_succ])
            refine wpAnyT_take (i := 3) (oi := { dst := some 88, op := Op.move (Operand.tmp 2), type := 86, pos := "build.go:73", after := #[], guard := none }) (v := ?v3r10q5) rfl (by kernel_rfl) (fun _ _ _ h => h) (by rfl) hHeld ?h3r10q5 ?_
            case h3r10q5 => (intro w' hSw; (try dsimp only at hSw); go_simp; try with_reducible rfl)
            (try simp only [Act.put, List.setIfInBounds_toArray, List.set_cons_zero, List.set_cons_succ])
            refine wpAnyT_take (i := 4) (oi := { dst := some 89, op := Op.move (Operand.tmp 11), type := 22, pos := "build.go:73", after := #[], guard := none }) (v := ?v4r10q5) rfl (by kernel_rfl) (fun _ _ _ h => h) (by rfl) hHeld ?h4r10q5 ?_
            case h4r10q5 => (intro w' hSw; (try dsimp only at hSw); go_simp; try with_reducible rfl)
            (try simp only [Act.put, List.setIfInBounds_toArray, List.set_cons_zero, List.set_cons_succ])
            clear hHeld
            refine wpAnyT_one (i := 5) (o := { dst := some 90, op := Op.call { callee := Callee.value (Operand.func 89), args := #[Operand.tmp 88, Operand.tmp 89], argTypes := #[86, 22] }, type := 22, pos := "build.go:73", after := #[{ on := 3, ground := Ground.data }, { on := 4, ground := Ground.data }], guard := none }) rfl (by kernel_rfl) (fun K hK => ?_)
            go_simp
            go_at_call 89
            refine HALL.out.mono ?_
            rintro e w5 ⟨hb5, g2, rfl, hg2, hnum⟩
            obtain ⟨hHeld, d5, f5⟩ := HOLD.out _ hb5
            have HN2 : Hid (BL w (w5.setCell ⟨gj, k, none⟩ (.slice (some ⟨g2, 0, none⟩) zs.length zs.length)) bb mx (V.cells C.max) V' X LN ((us ++ vs.drop k).set k (.slice (some ⟨g2, 0, none⟩) zs.length zs.length)) (five V' X ++ us.zip JN ++ [(.slice (some ⟨g2, 0, none⟩) zs.length zs.length, zs.map (mvX M))])) := Lib.hid (by
              have ho := all_own hnum hg2 HZL.out
              rw [flat_ints] at ho
              exact HT3.out.jus HVJ2.out (by rw [HST.out.1]; exact hlt) hb5 ho)
            refine hK.out _ _ (fun _ => hHeld) ?_
            clear hK K hb5 hnum hg2
            (try simp only [Act.put, List.setIfInBounds_toArray, List.set_cons_zero, List.set_cons_succ])
            refine wpAnyT_take (i := 6) (oi := { dst := some 91, op := Op.indexAddr 24 (Operand.tmp 86) (Operand.tmp 87), type := 0, pos := "build.go:73", after := #[{ on := 1, ground := Ground.data }, { on := 2, ground := Ground.data }, { on := 0, ground := Ground.phase }, { on := 1, ground := Ground.phase }, { on := 2, ground := Ground.phase }, { on := 3, ground := Ground.phase }, { on := 4, ground := Ground.phase }, { on := 5, ground := Ground.phase }], guard := none }) (v := ?v6r10q6) rfl (by kernel_rfl) (fun _ _ _ h => h) (by rfl) hHeld ?h6r10q6 ?_
            case h6r10q6 => (intro w' hSw; (try dsimp only at hSw); go_simp; try with_reducible rfl)
            (try simp only [Act.put, List.setIfInBounds_toArray, List.set_cons_zero, List.set_cons_succ])
            clear hHeld
            refine wpAnyT_one (i := 7) (o := { dst := none, op := Op.store 22 (Operand.tmp 91) (Operand.tmp 90), type := 0, pos := "build.go:73", after := #[{ on := 6, ground := Ground.data }, { on := 5, ground := Ground.data }, { on := 5, ground := Ground.chain }, { on := 0, ground := Ground.phase }, { on := 1, ground := Ground.phase }, { on := 2, ground := Ground.phase }, { on := 3, ground := Ground.phase }, { on := 4, ground := Ground.phase }, { on := 5, ground := Ground.phase }], guard := none }) rfl (by kernel_rfl) (fun K hK => ?_)
            go_simp
            refine hK.out _ _ (fun h => absurd h (by decide)) ?_
            clear hK K
            (try simp only [Act.put, List.setIfInBounds_toArray, List.set_cons_zero, List.set_cons_succ])
            refine wpAnyT_done (by kernel_rfl) ?_
            go_wp2
            go_roundg (nJ - (k + 1))
            case measure => omega
            case rel =>
              refine ⟨k + 1, us ++ [.slice (some ⟨g2, 0, none⟩) zs.length zs.length], by omega, rfl, by go_num, by rw [List.length_append, HUS.out]; rfl, ?_⟩
              have h2 := HN2.out
              have e1 : (us ++ vs.drop k).set k (Value.slice (some ⟨g2, 0, none⟩) zs.length zs.length) = us ++ [.slice (some ⟨g2, 0, none⟩) zs.length zs.length] ++ vs.drop (k + 1) := by
                rw [List.set_append_right _ _ (by rw [HUS.out]; exact Nat.le_refl _), HUS.out, Nat.sub_self]
                obtain ⟨v0, hv0⟩ : ∃ v0, vs[k]? = some v0 := ⟨_, List.getElem?_eq_getElem (by rw [HVN.out]; exact hlt)⟩
                rw [drop_one hv0]
                simp
              rw [e1, List.append_assoc (five V' X), ← zip_snoc us JN _ _ (by rw [HUS.out]; exact HST.out.2)] at h2
              exact h2
          · have hke : nJ = k := by omega
            have hk1 : ¬ (k : Int) < (nJ : Int) := by omega
            have HUN : Hid (us.length = nJ) := Lib.hid (by rw [hke]; exact HUS.out)
            have HB3 : Hid (BL w wr bb mx (V.cells C.max) V' X LN us (five V' X ++ us.zip JN)) := Lib.hid (by
              have := HT.out
              rw [List.drop_eq_nil_of_le (by rw [HVN.out, hke]; exact Nat.le_refl _), List.append_nil] at this
              exact this)
            clear HT hke HUS
            have hbx := HB3.out.box
            have hrs := HB3.out.res
            have HBX : Hid (wr.heap[bb]? = some (.cells (V'.cells mx) 29 (0, 0))) := Lib.hid hbx
            have HRS : Hid (wr.heap[w.heap.size + 1]? = some (.cells #[.int .i64 0, .slice none 0 0, .slice none 0 0, .slice none 0 0, .slice none 0 0, .slice none 0 0, .slice none 0 0, .slice none 0 0, .slice none 0 0, .slice none 0 0, .slice none 0 0] 29 (0, 0))) := Lib.hid hrs
            have hw9 : Blk (wr.setRow (w.heap.size + 1) (V'.cells mx)) (w.heap.size + 1) 29 (V'.cells mx) := setRow_heap wr (w.heap.size + 1) _ (V'.cells mx) _ _ hrs
            have H9 := Lib.hid hw9
            clear hbx hrs hw9
            go_wp2_with (first
              | (refine wpList_load_row rfl 29 (.tmp 7) rfl bb rfl 29 (V'.cells mx) (0, 0) _ HBX.out Try.underlying29 rfl (by kernel_rfl) ?_)
              | (refine wpList_store_row rfl 29 (.tmp 6) (.tmp 93) rfl (w.heap.size + 1) (V'.cells mx) rfl rfl 29 _ HRS.out (by kernel_rfl) rfl HONE.out ?_))
            refine bodyPost_ret (results_cell_row (fn := Try.f38) rfl _ _ (w.heap.size + 1) 29 (V'.cells mx) (0, 0) _ rfl H9.out Try.underlying29 rfl (by kernel_rfl)) rfl ?_
            have h := HB3.out
            have hne : ∀ {t : TypeId} {k n : Nat} {v : Value} {xs : List Value}, wr.ownsRow w.heap.size t k v n xs → t ≠ 29 → (wr.setRow (w.heap.size + 1) (V'.cells mx)).ownsRow w.heap.size t k v n xs := fun ho ht =>
              own_of_block ho fun g hg => setRow_other _ _ _ _ (fun e => own_blk_ne ho h.res ht (by rw [hg, e]))
            refine ⟨V', rfl, ⟨h.below.os, h.below.tape, h.below.output, by rw [size_setRow]; exact h.below.size, fun k hk => (setRow_other _ _ _ _ (by omega)).trans (h.below.block k hk)⟩, us, ?_⟩
            have hf := h.fam
            have ha := hne h.a (by decide)
            have hs := hne h.s (by decide)
            have ht := hne h.t (by decide)
            have hl := hne h.l (by decide)
            rw [← HX.out] at hf ha hs ht
            rw [← HLN.out] at hl
            rw [← HJN.out] at hf
            exact ⟨⟨fun p hp => hne (hf.own p hp) (by decide), hf.apart⟩, by rw [HJN.out, HJL.out]; exact HUN.out, hne h.j (by decide), hl, ha, hs, ht⟩
end Go.Proofs.Ytilbgopdciiadaa

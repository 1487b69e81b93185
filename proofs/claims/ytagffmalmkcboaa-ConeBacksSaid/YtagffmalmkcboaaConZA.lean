/- Cone: Trace: the contract whole. -/
import Derived.Test.YtagffmalmkcboaaConY
import Derived.Test.YtagffmalmkcboaaTrnF
import Derived.Test.YtagffmalmkcboaaRunC
import Derived.Test.YtagffmalmkcboaaConK
namespace Go.Proofs.Ytagffmalmkcboaa
open Go.RowKit Go.Maps

section
variable {P : Program} {md : Region.Mode} {ops : Array Oper} {Q : Exit → Act → World → Prop} {S : World → Prop} {n : Nat}
theorem wpAnyT_three {i j k fuel : Nat} {listed : Array Bool} {a : Act} {w : World} (hr : Region.ready md ops listed = [i, j, k])
    (h1 : wpOp P ops Q i (fun a' w' => (i < n → S w') ∧ wpAnyT P md ops Q S n fuel (listed.setIfInBounds i true) a' w') a w)
    (h2 : wpOp P ops Q j (fun a' w' => (j < n → S w') ∧ wpAnyT P md ops Q S n fuel (listed.setIfInBounds j true) a' w') a w)
    (h3 : wpOp P ops Q k (fun a' w' => (k < n → S w') ∧ wpAnyT P md ops Q S n fuel (listed.setIfInBounds k true) a' w') a w) : wpAnyT P md ops Q S n (fuel + 1) listed a w := by
  refine ⟨fun h0 => (by rw [hr] at h0; cases h0), fun x hx => ?_⟩
  rw [hr] at hx
  simp only [List.mem_cons, List.not_mem_nil, or_false] at hx
  rcases hx with rfl | rfl | rfl
  · exact h1
  · exact h2
  · exact h3
theorem wpAnyT_two {i j fuel : Nat} {listed : Array Bool} {a : Act} {w : World} (hr : Region.ready md ops listed = [i, j])
    (h1 : wpOp P ops Q i (fun a' w' => (i < n → S w') ∧ wpAnyT P md ops Q S n fuel (listed.setIfInBounds i true) a' w') a w)
    (h2 : wpOp P ops Q j (fun a' w' => (j < n → S w') ∧ wpAnyT P md ops Q S n fuel (listed.setIfInBounds j true) a' w') a w) : wpAnyT P md ops Q S n (fuel + 1) listed a w := by
  refine ⟨fun h0 => (by rw [hr] at h0; cases h0), fun x hx => ?_⟩
  rw [hr] at hx
  simp only [List.mem_cons, List.not_mem_nil, or_false] at hx
  rcases hx with rfl | rfl
  · exact h1
  · exact h2
theorem wpOpT {i fuel : Nat} {o : Oper} {listed : Array Bool} {a : Act} {w : World} (ho : ops[i]? = some o)
    (h : ∀ K' : Act → World → Prop, Shut (∀ a w, (i < n → S w) → wpAnyT P md ops Q S n fuel (listed.setIfInBounds i true) a w → K' a w) → if Region.wanted o (yielded ops a.tmps) = true then Oper.wp P o a w K' Q else K' (a.put o.dst undef) w) :
    wpOp P ops Q i (fun a' w' => (i < n → S w') ∧ wpAnyT P md ops Q S n fuel (listed.setIfInBounds i true) a' w') a w :=
  wpOp_step ho (fun K' hK => h K' (fun a w hS hW => hK a w ⟨hS, hW⟩))
end

def backI (C : Circ) : List Bool := C.latches.map fun z => decide (z.2.2 = 1)
def backR (C : Circ) (I : List Int) (r : List Bool) : List Bool := putS (List.replicate C.inputs.length false) I r
def backT (C : Circ) (I T : List Int) (t : Tr) : Tr := ⟨putS (backI C) T t.init, t.rows.map (backR C I), t.loop⟩
structure TB (W0 wr : World) (bz gi gr nL nR : Nat) (lp : Int) (ini : List Bool) (us : List Value) (rows : List (List Bool)) : Prop where
  below : Below W0.heap.size W0 wr
  bl : W0.heap.size ≤ bz
  il : W0.heap.size ≤ gi
  rl : W0.heap.size ≤ gr
  bx : Blk wr bz 49 #[.slice (some ⟨gi, 0, none⟩) nL nL, .slice (some ⟨gr, 0, none⟩) nR nR, .int .i64 lp]
  i : Tab wr gi ini
  r : Blk wr gr 46 us.toArray
  inl : ini.length = nL
  ul : us.length = nR
  rwl : rows.length = nR
  each : ∀ (k : Nat) (u : Value) (zs : List Bool), us[k]? = some u → rows[k]? = some zs → wr.ownsRow W0.heap.size 4 1 u zs.length (zs.map Value.bool) ∧ u.ownBlock ≠ some gi
theorem made_bool (n : Nat) : madeCells #[Value.bool false] n = ((List.replicate n false).map Value.bool).toArray := by
  unfold madeCells
  apply Array.ext
  · simp
  · intro k h1 h2
    have := Nat.mod_one k
    simp [Nat.mod_one]
theorem made_nil (n : Nat) : madeCells #[Value.slice none 0 0] n = (List.replicate n (Value.slice none 0 0)).toArray := by
  unfold madeCells
  apply Array.ext
  · simp
  · intro k h1 h2
    simp [Nat.mod_one]
theorem TB.new {W0 WB X : World} {bz gi gr nL nR : Nat} {lp : Int} (hW : Below W0.heap.size W0 WB) (hX : Below WB.heap.size WB X) (h1 : WB.heap.size ≤ bz) (h2 : WB.heap.size ≤ gi) (h3 : WB.heap.size ≤ gr)
    (hi : Blk X gi 4 (madeCells #[Value.bool false] nL)) (hr : Blk X gr 46 (madeCells #[Value.slice none 0 0] nR)) (hb : Blk X bz 49 #[.slice none 0 0, .slice none 0 0, .int .i64 0]) :
    TB W0 (X.setRow bz #[.slice (some ⟨gi, 0, none⟩) nL nL, .slice (some ⟨gr, 0, none⟩) nR nR, .int .i64 lp]) bz gi gr nL nR lp (List.replicate nL false) (List.replicate nR (.slice none 0 0)) (List.replicate nR []) := by
  have hz := hW.size
  have h0X := bt hW (Nat.le_refl _) hX
  have n1 : gi ≠ bz := fun e => hi.ne_ hb (by decide) e
  have n2 : gr ≠ bz := fun e => hr.ne_ hb (by decide) e
  refine ⟨⟨h0X.os, h0X.tape, h0X.output, by rw [size_setRow]; exact h0X.size, fun k hk => (setRow_other _ _ _ _ (by omega)).trans (h0X.block k hk)⟩, by omega, by omega, by omega, setRow_heap _ _ _ _ _ _ hb, ?_, ?_, by simp, by simp, by simp, fun k u zs hu hz2 => ?_⟩
  · rw [made_bool] at hi
    exact (setRow_other _ _ _ _ n1).trans hi
  · rw [made_nil] at hr
    exact (setRow_other _ _ _ _ n2).trans hr
  · rw [List.getElem?_replicate] at hu hz2
    split at hu
    · rw [if_pos (by assumption)] at hz2
      cases hu; cases hz2
      exact ⟨⟨by simp, .inl ⟨rfl, rfl⟩⟩, by simp [Value.ownBlock]⟩
    · cases hu
theorem make_rowsO (n : Nat) (h : n ≤ 1000000) (wx : World) : (Instr.makeSlice 47 (.int .i64 (n : Int)) (.int .i64 (n : Int))).run Try.prog wx = .ok (.slice (some ⟨wx.heap.size, 0, none⟩) n n) (wx.alloc (.cells (madeCells #[Value.slice none 0 0] n) 46)) := by
  obtain ⟨i0, hi0, hz0, hz1, hz2⟩ := info_of2 infoBB
  have := run_make (P := Try.prog) wx 47 46 i0 (.slice none 0 0) Try.underlying47 hi0 hz0 .i64 .i64 n n (by omega) (by omega) (by rw [hz2]; omega) (by omega)
  rw [hz1] at this
  simpa [Value.cells] using this
section
variable {W0 wr w5 w7 : World} {bz gi gr nL nR : Nat} {lp : Int} {ini : List Bool} {us : List Value} {rows : List (List Bool)}
theorem TB.far (h : TB W0 wr bz gi gr nL nR lp ini us rows) (hb : Below W0.heap.size W0 w5) (hk : ∀ k, W0.heap.size ≤ k → k < wr.heap.size → w5.heap[k]? = wr.heap[k]?) : TB W0 w5 bz gi gr nL nR lp ini us rows :=
  ⟨hb, h.bl, h.il, h.rl, (hk _ h.bl h.bx.lt).trans h.bx, (hk _ h.il (Blk.lt h.i)).trans h.i, (hk _ h.rl h.r.lt).trans h.r, h.inl, h.ul, h.rwl, fun k u zs hu hz => ⟨own_of_block (h.each k u zs hu hz).1 fun g hg => hk g ((h.each k u zs hu hz).1.lt g hg).1 ((h.each k u zs hu hz).1.lt g hg).2, (h.each k u zs hu hz).2⟩⟩
theorem TB.on (h : TB W0 wr bz gi gr nL nR lp ini us rows) (hb : Below wr.heap.size wr w5) : TB W0 w5 bz gi gr nL nR lp ini us rows :=
  h.far (h.below.trans (hb.mono h.below.size)) fun k _ hk => hb.block k hk
theorem TB.alloc_ (h : TB W0 wr bz gi gr nL nR lp ini us rows) (o : Obj) : TB W0 (wr.alloc o) bz gi gr nL nR lp ini us rows := h.on ((Below.refl _ _).alloc (Nat.le_refl _) o)
theorem TB.ne (h : TB W0 wr bz gi gr nL nR lp ini us rows) : bz ≠ gi ∧ gr ≠ gi ∧ bz ≠ gr := ⟨fun e => h.bx.ne_ h.i (by decide) e, fun e => h.r.ne_ h.i (by decide) e, fun e => h.bx.ne_ h.r (by decide) e⟩
theorem TB.ini_ (h : TB W0 wr bz gi gr nL nR lp ini us rows) (hg : wr.grownBy w5 (some gi)) {ini' : List Bool} (ht : Tab w5 gi ini') (hl : ini'.length = nL) : TB W0 w5 bz gi gr nL nR lp ini' us rows := by
  obtain ⟨n1, n2, n3⟩ := h.ne
  have hb : Below W0.heap.size W0 w5 := h.below.grown hg h.below.size (fun k hk => by cases hk; exact h.il)
  have e : ∀ k, k ≠ gi → k < wr.heap.size → w5.heap[k]? = wr.heap[k]? := fun k hk hl => hg.block k hl (fun e => hk (by injection e))
  exact ⟨hb, h.bl, h.il, h.rl, (e _ n1 h.bx.lt).trans h.bx, ht, (e _ n2 h.r.lt).trans h.r, hl, h.ul, h.rwl, fun k u zs hu hz => ⟨own_of_block (h.each k u zs hu hz).1 fun g hg' => e g (fun e2 => (h.each k u zs hu hz).2 (by rw [← e2]; exact hg')) ((h.each k u zs hu hz).1.lt g hg').2, (h.each k u zs hu hz).2⟩⟩
theorem TB.setI (h : TB W0 wr bz gi gr nL nR lp ini us rows) (q : Nat) (b : Bool) : TB W0 (wr.setCell ⟨gi, q, none⟩ (.bool b)) bz gi gr nL nR lp (ini.set q b) us rows := by
  obtain ⟨n1, n2, n3⟩ := h.ne
  have e : ∀ k, k ≠ gi → (wr.setCell ⟨gi, q, none⟩ (.bool b)).heap[k]? = wr.heap[k]? := fun k hk => Below.heap_setCell _ _ _ _ hk
  exact ⟨h.below.setCell h.il _, h.bl, h.il, h.rl, (e _ n1).trans h.bx, Tab.set_ h.i q b, (e _ n2).trans h.r, by rw [List.length_set]; exact h.inl, h.ul, h.rwl, fun k u zs hu hz => ⟨own_of_block (h.each k u zs hu hz).1 fun g hg' => e g (fun e2 => (h.each k u zs hu hz).2 (by rw [← e2]; exact hg')), (h.each k u zs hu hz).2⟩⟩
theorem TB.row (h : TB W0 wr bz gi gr nL nR lp ini us rows) {q g n : Nat} (hq : q < nR) (hb : Below wr.heap.size wr w5) (hg : wr.heap.size ≤ g) {zs' : List Bool} (hgr : (w5.setCell ⟨gr, q, none⟩ (.slice (some ⟨g, 0, none⟩) n n)).grownBy w7 (some g)) (ht : Tab w7 g zs') (hl : zs'.length = n) (hn : n ≤ maxLen) :
    TB W0 w7 bz gi gr nL nR lp ini (us.set q (.slice (some ⟨g, 0, none⟩) n n)) (rows.set q zs') := by
  obtain ⟨n1, n2, n3⟩ := h.ne
  have h0 := h.below.size
  have l1 := h.bx.lt
  have l2 := Blk.lt h.i
  have l3 := h.r.lt
  have e : ∀ k, k < wr.heap.size → k ≠ gr → w7.heap[k]? = wr.heap[k]? := fun k hk hne =>
    (hgr.block k (by have := hb.size; simp [World.setCell]; omega) (fun e => by injection e; omega)).trans ((Below.heap_setCell _ _ _ _ hne).trans (hb.block k hk))
  have er : Blk w7 gr 46 (us.set q (.slice (some ⟨g, 0, none⟩) n n)).toArray := by
    have k1 : Blk w5 gr 46 us.toArray := h.r.below hb l3
    have k2 := Blk.set_ k1 q (.slice (some ⟨g, 0, none⟩) n n)
    rw [List.setIfInBounds_toArray] at k2
    exact (hgr.block gr (by have := hb.size; simp [World.setCell]; omega) (fun e => by injection e; omega)).trans k2
  have hbel : Below W0.heap.size W0 w7 := (((h.below.trans (hb.mono h0)).setCell (p := ⟨gr, q, none⟩) h.rl (.slice (some ⟨g, 0, none⟩) n n))).grown hgr (by have := hb.size; simp [World.setCell]; omega) (fun k hk => by cases hk; omega)
  refine ⟨hbel, h.bl, h.il, h.rl, (e _ l1 n3).trans h.bx, (e _ l2 (Ne.symm n2)).trans h.i, er, h.inl, by rw [List.length_set]; exact h.ul, by rw [List.length_set]; exact h.rwl, fun k u zs hu hz => ?_⟩
  rw [List.getElem?_set] at hu hz
  by_cases ek : q = k
  · subst ek
    rw [if_pos rfl, if_pos (by rw [h.ul]; exact hq)] at hu
    rw [if_pos rfl, if_pos (by rw [h.rwl]; exact hq)] at hz
    injection hu with hu
    injection hz with hz
    subst hu hz
    refine ⟨?_, fun e2 => ?_⟩
    · have := tab_ownO (B := W0.heap.size) ht (by omega) (by rw [hl]; exact hn)
      rw [hl] at this ⊢
      exact this
    · injection e2 with e2
      have e3 : g = gi := e2
      omega
  · rw [if_neg ek] at hu hz
    obtain ⟨k1, k2⟩ := h.each k u zs hu hz
    exact ⟨own_of_block k1 fun g' hg' => e g' (k1.lt g' hg').2 (fun e2 => own_blk_ne k1 h.r (by decide) (by rw [hg', e2])), k2⟩
end
theorem cell_heapC {w w' : World} {p : Addr} (h : w'.heap[p.block]? = w.heap[p.block]?) : w'.cell? p = w.cell? p := by
  unfold World.cell?
  rw [h]
theorem rowMid {α : Type} {L : List α} {k n : Nat} {x d : α} (hl : L.length = n) (h : L[k]? = some x) : (L.take k ++ List.replicate (n - k) d).set k x = L.take (k + 1) ++ List.replicate (n - (k + 1)) d := by
  have hk := (List.getElem?_eq_some_iff.1 h).1
  have ht : L.take (k + 1) = L.take k ++ [x] := by rw [List.take_add_one, h]; rfl
  rw [show n - k = (n - (k + 1)) + 1 by omega, List.replicate_succ, List.set_append_right _ _ (by simp; omega), ht]
  have : k - (L.take k).length = 0 := by simp; omega
  rw [this, List.set_cons_zero]
  simp
theorem OwnT.le {w : World} {B B' : Nat} {t : Tr} {U : TV} (h : OwnT w B t U) (hb : B' ≤ B) : OwnT w B' t U := by
  obtain ⟨us, h1, h2, h3⟩ := h.ex
  exact ⟨own_le h.i hb, us, h1, own_le h2 hb, fun i u zs hu hz => own_le (h3 i u zs hu hz) hb⟩
theorem TB.fin {W0 wr : World} {bz gi gr nL nR b1 : Nat} {lp : Int} {ini : List Bool} {us : List Value} {rows : List (List Bool)} {t : Tr} {x0 x1 x2 : Value} (h : TB W0 wr bz gi gr nL nR lp ini us rows) (e1 : t.init = ini) (e2 : t.rows = rows) (hm : Blk wr b1 49 #[x0, x1, x2]) (hn : nL ≤ maxLen) (hn2 : nR ≤ maxLen) (u0 u1 u2 : Value) :
    OwnT (((wr.setCell ⟨b1, 0, none⟩ u0).setCell ⟨b1, 1, none⟩ u1).setCell ⟨b1, 2, none⟩ u2) W0.heap.size t ⟨.slice (some ⟨gi, 0, none⟩) nL nL, .slice (some ⟨gr, 0, none⟩) nR nR⟩ := by
  have key : ∀ (size n : Nat) (t : TypeId) (v : Value) (xs : List Value), t ≠ 49 → wr.ownsRow W0.heap.size t size v n xs → (((wr.setCell ⟨b1, 0, none⟩ u0).setCell ⟨b1, 1, none⟩ u1).setCell ⟨b1, 2, none⟩ u2).ownsRow W0.heap.size t size v n xs := fun size n t v xs hne ho => by
    have hn := fun (k : Nat) (hk : v.ownBlock = some k) (e : k = b1) => own_blk_ne ho hm hne (by rw [hk, e])
    exact own_setQ (own_setQ (own_setQ ho _ _ hn) _ _ hn) _ _ hn
  have hi : wr.ownsRow W0.heap.size 4 1 (.slice (some ⟨gi, 0, none⟩) nL nL) ini.length (ini.map Value.bool) := by
    have := tab_ownO (B := W0.heap.size) h.i h.il (by rw [h.inl]; exact hn)
    rw [h.inl] at this ⊢
    exact this
  have hr : wr.ownsRow W0.heap.size 46 1 (.slice (some ⟨gr, 0, none⟩) nR nR) us.length us := by
    refine ⟨by simp, .inr ⟨gr, nR, us.toArray, by rw [h.ul], h.rl, h.r, by rw [h.ul]; exact Nat.le_refl _, hn2, by simp [h.ul], by simp⟩⟩
  exact ⟨by rw [e1]; exact key _ _ _ _ _ (by decide) hi, us, by rw [e2, h.ul, h.rwl], key _ _ _ _ _ (by decide) hr, fun i u zs hu hz => key _ _ _ _ _ (by decide) (h.each i u zs hu (by rw [← e2]; exact hz)).1⟩
set_option maxHeartbeats 20000000 in
set_option maxRecDepth 100000 in
theorem traceOf_any (w : World) (V : CV) (C : Circ) (X : CV) (mx : Int) (lv iv tv : Value) (I T : List Int) (U : TV) (t : Tr) (h : C.In w V) (hr : Right C) (hi : RowE 1 encI w iv I) (ht : RowE 1 encI w tv T) (hu : t.In w U)
    (hrows : t.rows.length ≤ 512) (hT : ∀ p ∈ T, 0 ≤ p ∧ p < (C.latches.length : Int)) (hTl : T.length = t.init.length) (hI : ∀ p ∈ I, 0 ≤ p ∧ p < (C.inputs.length : Int)) (hIl : ∀ r ∈ t.rows, r.length = I.length) :
    Calls Try.prog 39 #[V.val C.max, .agg (cutCells X mx lv iv tv), U.val t.loop] w fun e w' => Below w.heap.size w w' ∧ ∃ U' : TV, e = .returned (U'.val t.loop) ∧ OwnT w' w.heap.size (backT C I T t) U' := by
  have HRT := Lib.hid hr
  obtain ⟨AL, cL, eL, _, _, hrL⟩ := h.l
  obtain ⟨AI, cI, eI, _, _, hrI⟩ := h.i
  obtain ⟨AR, cR, eR, _, hrr⟩ := hu.r.at_
  obtain ⟨Vi, Vl, Vo, Vb, Vc, Vj, Vf, Va, Vs, Vt⟩ := V
  obtain ⟨Ui, Ur⟩ := U
  simp only at eL eI eR
  subst eL eI eR
  obtain ⟨nI, hnI⟩ : ∃ n, C.inputs.length = n := ⟨_, rfl⟩
  obtain ⟨nL, hnL⟩ : ∃ n, C.latches.length = n := ⟨_, rfl⟩
  obtain ⟨nR, hnR⟩ : ∃ n, t.rows.length = n := ⟨_, rfl⟩
  obtain ⟨lp, hlp⟩ : ∃ n, t.loop = n := ⟨_, rfl⟩
  have hni : nI ≤ 16384 := by rw [← hnI]; exact hr.ni
  have hnl : nL ≤ 16384 := by rw [← hnL]; exact hr.nl
  have HNN := Lib.hid (And.intro hnI (And.intro hnL (And.intro hnR hlp)))
  rw [hnL] at hT
  rw [hnI] at hI
  rw [hnR] at hrows
  have HT_ := Lib.hid hT
  have HI_ := Lib.hid hI
  have HTL := Lib.hid hTl
  have HIL := Lib.hid hIl
  have HRL := Lib.hid hrL
  have HRR := Lib.hid hrr
  rw [hlp]
  dsimp only [CV.val, CV.cells, TV.val, TV.cells, cutCells]
  rw [hnL, hnI, hnR]
  obtain ⟨CS, hCS⟩ : ∃ CS : Array Value, #[.int .i64 C.max, .slice AI nI cI, .slice AL nL cL, Vo, Vb, Vc, Vj, Vf, Va, Vs, Vt] = CS := ⟨_, rfl⟩
  obtain ⟨KS, hKS⟩ : ∃ KS : Array Value, #[.int .i64 mx, X.i, X.l, X.o, X.b, X.c, X.j, X.f, X.a, X.s, X.t, lv, iv, tv] = KS := ⟨_, rfl⟩
  rw [hCS, hKS]
  obtain ⟨W1, hW1⟩ : ∃ W1, (((w.alloc (.cells CS 29)).alloc (.cells KS 34)).alloc (.cells #[Ui, .slice AR nR cR, .int .i64 lp] 49)).alloc (.cells #[.slice none 0 0, .slice none 0 0, .int .i64 0] 49) = W1 := ⟨_, rfl⟩
  have HS1 : Hid (W1.heap.size = w.heap.size + 1 + 1 + 1 + 1) := Lib.hid (by rw [← hW1]; simp)
  have hb1 : Below w.heap.size w W1 := by rw [← hW1]; exact ((((Below.refl _ _).alloc (Nat.le_refl _) _).alloc (by simp) _).alloc (by simp; omega) _).alloc (by simp; omega) _
  have HALL : Hid (∀ wz, Below W1.heap.size W1 wz → (wz.cell? ⟨w.heap.size, 1, none⟩ = some (.slice AI nI cI) ∧ wz.cell? ⟨w.heap.size, 2, none⟩ = some (.slice AL nL cL)) ∧ (wz.cell? ⟨w.heap.size + 1, 12, none⟩ = some iv ∧ wz.cell? ⟨w.heap.size + 1, 13, none⟩ = some tv) ∧ (wz.cell? ⟨w.heap.size + 1 + 1, 0, none⟩ = some Ui ∧ wz.cell? ⟨w.heap.size + 1 + 1, 1, none⟩ = some (.slice AR nR cR) ∧ wz.cell? ⟨w.heap.size + 1 + 1, 2, none⟩ = some (.int .i64 lp)) ∧ Blk wz (w.heap.size + 1 + 1 + 1) 49 #[.slice none 0 0, .slice none 0 0, .int .i64 0] ∧ Below w.heap.size w wz) := Lib.hid (fun wz hb => by
    have h1 : Blk W1 w.heap.size 29 CS := by rw [← hW1]; exact (((Blk.new w _ _).alloc _).alloc _).alloc _
    have h2 : Blk W1 (w.heap.size + 1) 34 KS := by
      rw [← hW1]
      have := ((Blk.new (w.alloc (.cells CS 29)) 34 KS).alloc (.cells #[Ui, .slice AR nR cR, .int .i64 lp] 49)).alloc (.cells #[.slice none 0 0, .slice none 0 0, .int .i64 0] 49)
      simpa using this
    have h3 : Blk W1 (w.heap.size + 1 + 1) 49 #[Ui, .slice AR nR cR, .int .i64 lp] := by
      rw [← hW1]
      have := (Blk.new ((w.alloc (.cells CS 29)).alloc (.cells KS 34)) 49 #[Ui, .slice AR nR cR, .int .i64 lp]).alloc (.cells #[.slice none 0 0, .slice none 0 0, .int .i64 0] 49)
      simpa using this
    have h4 : Blk W1 (w.heap.size + 1 + 1 + 1) 49 #[.slice none 0 0, .slice none 0 0, .int .i64 0] := by
      rw [← hW1]
      have := Blk.new (((w.alloc (.cells CS 29)).alloc (.cells KS 34)).alloc (.cells #[Ui, .slice AR nR cR, .int .i64 lp] 49)) 49 #[.slice none 0 0, .slice none 0 0, .int .i64 0]
      simpa using this
    have k1 := h1.below hb h1.lt
    have k2 := h2.below hb h2.lt
    have k3 := h3.below hb h3.lt
    rw [← hCS] at k1
    rw [← hKS] at k2
    have a1 := k1.cell 1
    have a2 := k1.cell 2
    have a12 := k2.cell 12
    have a13 := k2.cell 13
    have u0 := k3.cell 0
    have u1 := k3.cell 1
    have u2 := k3.cell 2
    simp only [List.getElem?_toArray, List.getElem?_cons_zero, List.getElem?_cons_succ] at a1 a2 a12 a13 u0 u1 u2
    exact ⟨⟨a1, a2⟩, ⟨a12, a13⟩, ⟨u0, u1, u2⟩, h4.below hb h4.lt, hb1.trans (hb.mono hb1.size)⟩)
  have HROW : Hid (∀ wz, Below W1.heap.size W1 wz → RowE 1 encI wz iv I ∧ RowE 1 encI wz tv T ∧ RowE 1 encO wz Ui t.init) := Lib.hid (fun wz hb => by
    have h1 := hb1.trans (hb.mono hb1.size)
    exact ⟨hi.below h1, ht.below h1, hu.i.below h1⟩)
  have HW1 := Lib.hid hW1
  have hmkb := make_bools nL (by omega)
  have hmki := make_bools nI (by omega)
  have hmkr := make_rowsO nR (by omega)
  obtain ⟨WB, hWB⟩ : ∃ WB, W1.drew = WB := ⟨_, rfl⟩
  have HWD := Lib.hid hWB
  have HWB : Hid (Below W1.heap.size W1 WB) := Lib.hid (by rw [← hWB]; exact (Below.refl _ _).drew)
  have HSS : Hid (∀ wz, Below W1.heap.size W1 wz → wz.cell? ⟨w.heap.size, 2, none⟩ = some (.slice AL nL cL) ∧ wz.cell? ⟨w.heap.size + 1 + 1, 1, none⟩ = some (.slice AR nR cR) ∧ wz.cell? ⟨w.heap.size + 1 + 1, 2, none⟩ = some (.int .i64 lp)) := Lib.hid (fun wz hb => ⟨(HALL.out wz hb).1.2, (HALL.out wz hb).2.2.1.2⟩)
  have HB1 := Lib.hid hb1
  have HHW := Lib.hid (And.intro hrI h)
  clear h hr hi ht hu hT hTl hI hIl hnI hnL hnR hlp hrL hrr hrI hCS hKS hW1 hWB hb1
  go_enter Try.func39, Try.ntmps39
  go_upto_region 1 with (fail)
  rw [HW1.out]
  go_cut [7] (fun p wx => ∃ bz gi gr : Nat, p = .pointer (some ⟨bz, 0, none⟩) ∧ TB W1 wx bz gi gr nL nR lp (List.replicate nL false) (List.replicate nR (.slice none 0 0)) (List.replicate nR []))
  case first =>
    refine wp_region_T (by kernel_rfl) (fun w' => w'.cell? ⟨w.heap.size, 2, none⟩ = some (.slice AL nL cL) ∧ w'.cell? ⟨w.heap.size + 1 + 1, 1, none⟩ = some (.slice AR nR cR) ∧ w'.cell? ⟨w.heap.size + 1 + 1, 2, none⟩ = some (.int .i64 lp)) 13 ?_
    rw [HWD.out]
    have hHeld := HSS.out WB HWB.out
    refine wpAnyT_take (i := 0) (v := ?v0r1) rfl (by kernel_rfl) (fun _ _ _ h => h) (by rfl) hHeld ?h0r1 ?_
    case h0r1 => (intro w' hSw; (try dsimp only at hSw); go_simp; try with_reducible rfl)
    (try simp only [Act.put, List.setIfInBounds_toArray])
    refine wpAnyT_take (i := 1) (v := ?v1r1) rfl (by kernel_rfl) (fun _ _ _ h => h) (by rfl) hHeld ?h1r1 ?_
    case h1r1 => (intro w' hSw; (try dsimp only at hSw); go_simp; try with_reducible rfl)
    (try simp only [Act.put])
    refine wpAnyT_take (i := 2) (v := ?v2r1) rfl (by kernel_rfl) (fun _ _ _ h => h) (by rfl) hHeld ?h2r1 ?_
    case h2r1 => (intro w' hSw; (try dsimp only at hSw); go_simp; try with_reducible rfl)
    (try simp only [Act.put])
    refine wpAnyT_take (i := 4) (v := ?v4r1) rfl (by kernel_rfl) (fun _ _ _ h => h) (by rfl) hHeld ?h4r1 ?_
    case h4r1 => (intro w' hSw; (try dsimp only at hSw); go_simp; try with_reducible rfl)
    (try simp only [Act.put])
    refine wpAnyT_take (i := 5) (v := ?v5r1) rfl (by kernel_rfl) (fun _ _ _ h => h) (by rfl) hHeld ?h5r1 ?_
    case h5r1 => (intro w' hSw; (try dsimp only at hSw); go_simp; try with_reducible rfl)
    (try simp only [Act.put])
    refine wpAnyT_take (i := 6) (v := ?v6r1) rfl (by kernel_rfl) (fun _ _ _ h => h) (by rfl) hHeld ?h6r1 ?_
    case h6r1 => (intro w' hSw; (try dsimp only at hSw); go_simp; try with_reducible rfl)
    (try simp only [Act.put])
    refine wpAnyT_take (i := 8) (v := ?v8r1) rfl (by kernel_rfl) (fun _ _ _ h => h) (by rfl) hHeld ?h8r1 ?_
    case h8r1 => (intro w' hSw; (try dsimp only at hSw); go_simp; try with_reducible rfl)
    (try simp only [Act.put])
    refine wpAnyT_take (i := 9) (v := ?v9r1) rfl (by kernel_rfl) (fun _ _ _ h => h) (by rfl) hHeld ?h9r1 ?_
    case h9r1 => (intro w' hSw; (try dsimp only at hSw); go_simp; try with_reducible rfl)
    (try simp only [Act.put])
    clear hHeld
    refine wpAnyT_three (i := 3) (j := 7) (k := 11) (by kernel_rfl) ?f3 ?f7 ?f11
    case f3 =>
      refine wpOpT (i := 3) rfl (fun K hK => ?_)
      go_simp
      refine hK.out _ _ (fun _ => HSS.out _ (bt HWB.out (Nat.le_refl _) ((Below.refl _ _).alloc (Nat.le_refl _) _))) ?_
      clear hK K
      (try simp only [Act.put, zA, zB, zC])
      refine wpAnyT_two (i := 7) (j := 11) (by kernel_rfl) ?f37 ?f311
      case f37 =>
        refine wpOpT (i := 7) rfl (fun K hK => ?_)
        go_simp
        refine hK.out _ _ (fun _ => HSS.out _ (bt HWB.out (Nat.le_refl _) (((Below.refl _ _).alloc (Nat.le_refl _) _).alloc (by simp) _))) ?_
        clear hK K
        (try simp only [Act.put, zA, zB, zC])
        have hHeld := HSS.out _ (bt HWB.out (Nat.le_refl _) (((Below.refl _ _).alloc (Nat.le_refl _) _).alloc (by simp) _ : Below WB.heap.size WB ((WB.alloc (.cells (madeCells #[Value.bool false] nL) 4)).alloc (.cells (madeCells #[Value.slice none 0 0] nR) 46))))
        refine wpAnyT_take (i := 10) (v := ?v10rb3711) rfl (by kernel_rfl) (fun _ _ _ h => h) (by rfl) hHeld ?h10rb3711 ?_
        case h10rb3711 => (intro w' hSw; (try dsimp only at hSw); go_simp; try with_reducible rfl)
        (try simp only [Act.put, List.setIfInBounds_toArray])
        clear hHeld
        refine wpAnyT_one (i := 11) rfl (by kernel_rfl) (fun K hK => ?_)
        go_simp
        refine hK.out _ _ (fun _ => HSS.out _ (bt HWB.out (Nat.le_refl _) ((((Below.refl _ _).alloc (Nat.le_refl _) _).alloc (by simp) _).alloc (by simp; omega) _))) ?_
        clear hK K
        (try simp only [Act.put, zA, zB, zC])
        have hgi : Blk (((WB.alloc (.cells (madeCells #[Value.bool false] nL) 4)).alloc (.cells (madeCells #[Value.slice none 0 0] nR) 46)).alloc (.cells #[.slice none 0 0, .slice none 0 0, .int .i64 0] 49)) WB.heap.size 4 (madeCells #[Value.bool false] nL) := ((Blk.new WB _ _).alloc _).alloc _
        have hgr : Blk (((WB.alloc (.cells (madeCells #[Value.bool false] nL) 4)).alloc (.cells (madeCells #[Value.slice none 0 0] nR) 46)).alloc (.cells #[.slice none 0 0, .slice none 0 0, .int .i64 0] 49)) (WB.heap.size + 1) 46 (madeCells #[Value.slice none 0 0] nR) := by
          have := (Blk.new (WB.alloc (.cells (madeCells #[Value.bool false] nL) 4)) 46 (madeCells #[Value.slice none 0 0] nR)).alloc (.cells #[.slice none 0 0, .slice none 0 0, .int .i64 0] 49)
          simpa using this
        have hbt : Blk (((WB.alloc (.cells (madeCells #[Value.bool false] nL) 4)).alloc (.cells (madeCells #[Value.slice none 0 0] nR) 46)).alloc (.cells #[.slice none 0 0, .slice none 0 0, .int .i64 0] 49)) (WB.heap.size + 1 + 1) 49 #[.slice none 0 0, .slice none 0 0, .int .i64 0] := by
          have := Blk.new ((WB.alloc (.cells (madeCells #[Value.bool false] nL) 4)).alloc (.cells (madeCells #[Value.slice none 0 0] nR) 46)) 49 #[.slice none 0 0, .slice none 0 0, .int .i64 0]
          simpa using this
        have hbx : Below WB.heap.size WB (((WB.alloc (.cells (madeCells #[Value.bool false] nL) 4)).alloc (.cells (madeCells #[Value.slice none 0 0] nR) 46)).alloc (.cells #[.slice none 0 0, .slice none 0 0, .int .i64 0] 49)) := (((Below.refl _ _).alloc (Nat.le_refl _) _).alloc (by simp) _).alloc (by simp; omega) _
        have hHeld := HSS.out _ (bt HWB.out (Nat.le_refl _) hbx)
        clear hHeld
        refine wpAnyT_one (i := 12) rfl (by kernel_rfl) (fun K hK => ?_)
        rw [if_pos (by rfl)]
        refine wp_store_row 49 (.tmp 7) (.tmp 22) rfl (WB.heap.size + 1 + 1) #[.slice (some ⟨WB.heap.size, 0, none⟩) nL nL, .slice (some ⟨(WB.heap.size + 1), 0, none⟩) nR nR, .int .i64 lp] rfl rfl 49 _ hbt (by kernel_rfl) rfl (by simp [Value.oneCell']) (hK.out _ _ (fun _ => HSS.out _ (TB.new HWB.out hbx (by omega) (by omega) (by omega) hgi hgr hbt).below) ?_)
        refine wpAnyT_done (by kernel_rfl) ?_
        go_wp2_with fail
        go_meet
        exact ⟨(WB.heap.size + 1 + 1), WB.heap.size, (WB.heap.size + 1), rfl, TB.new HWB.out hbx (by omega) (by omega) (by omega) hgi hgr hbt⟩
      case f311 =>
        refine wpOpT (i := 11) rfl (fun K hK => ?_)
        go_simp
        refine hK.out _ _ (fun _ => HSS.out _ (bt HWB.out (Nat.le_refl _) (((Below.refl _ _).alloc (Nat.le_refl _) _).alloc (by simp) _))) ?_
        clear hK K
        (try simp only [Act.put, zA, zB, zC])
        refine wpAnyT_one (i := 7) rfl (by kernel_rfl) (fun K hK => ?_)
        go_simp
        refine hK.out _ _ (fun _ => HSS.out _ (bt HWB.out (Nat.le_refl _) ((((Below.refl _ _).alloc (Nat.le_refl _) _).alloc (by simp) _).alloc (by simp; omega) _))) ?_
        clear hK K
        (try simp only [Act.put, zA, zB, zC])
        have hgi : Blk (((WB.alloc (.cells (madeCells #[Value.bool false] nL) 4)).alloc (.cells #[.slice none 0 0, .slice none 0 0, .int .i64 0] 49)).alloc (.cells (madeCells #[Value.slice none 0 0] nR) 46)) WB.heap.size 4 (madeCells #[Value.bool false] nL) := ((Blk.new WB _ _).alloc _).alloc _
        have hbt : Blk (((WB.alloc (.cells (madeCells #[Value.bool false] nL) 4)).alloc (.cells #[.slice none 0 0, .slice none 0 0, .int .i64 0] 49)).alloc (.cells (madeCells #[Value.slice none 0 0] nR) 46)) (WB.heap.size + 1) 49 #[.slice none 0 0, .slice none 0 0, .int .i64 0] := by
          have := (Blk.new (WB.alloc (.cells (madeCells #[Value.bool false] nL) 4)) 49 #[.slice none 0 0, .slice none 0 0, .int .i64 0]).alloc (.cells (madeCells #[Value.slice none 0 0] nR) 46)
          simpa using this
        have hgr : Blk (((WB.alloc (.cells (madeCells #[Value.bool false] nL) 4)).alloc (.cells #[.slice none 0 0, .slice none 0 0, .int .i64 0] 49)).alloc (.cells (madeCells #[Value.slice none 0 0] nR) 46)) (WB.heap.size + 1 + 1) 46 (madeCells #[Value.slice none 0 0] nR) := by
          have := Blk.new ((WB.alloc (.cells (madeCells #[Value.bool false] nL) 4)).alloc (.cells #[.slice none 0 0, .slice none 0 0, .int .i64 0] 49)) 46 (madeCells #[Value.slice none 0 0] nR)
          simpa using this
        have hbx : Below WB.heap.size WB (((WB.alloc (.cells (madeCells #[Value.bool false] nL) 4)).alloc (.cells #[.slice none 0 0, .slice none 0 0, .int .i64 0] 49)).alloc (.cells (madeCells #[Value.slice none 0 0] nR) 46)) := (((Below.refl _ _).alloc (Nat.le_refl _) _).alloc (by simp) _).alloc (by simp; omega) _
        have hHeld := HSS.out _ (bt HWB.out (Nat.le_refl _) hbx)
        refine wpAnyT_take (i := 10) (oi := { dst := some 22, op := Op.build 49 #[(0, Operand.tmp 15), (1, Operand.tmp 19), (2, Operand.tmp 21)], type := 49, pos := "back.go:36", after := #[{ on := 3, ground := Ground.data }, { on := 7, ground := Ground.data }, { on := 9, ground := Ground.data }], guard := none }) (v := ?v10rb3117) rfl (by kernel_rfl) (fun _ _ _ h => h) (by rfl) hHeld ?h10rb3117 ?_
        case h10rb3117 => (intro w' hSw; (try dsimp only at hSw); go_simp; try with_reducible rfl)
        (try simp only [Act.put, zA, zB, zC])
        clear hHeld
        refine wpAnyT_one (i := 12) rfl (by kernel_rfl) (fun K hK => ?_)
        rw [if_pos (by rfl)]
        refine wp_store_row 49 (.tmp 7) (.tmp 22) rfl (WB.heap.size + 1) #[.slice (some ⟨WB.heap.size, 0, none⟩) nL nL, .slice (some ⟨(WB.heap.size + 1 + 1), 0, none⟩) nR nR, .int .i64 lp] rfl rfl 49 _ hbt (by kernel_rfl) rfl (by simp [Value.oneCell']) (hK.out _ _ (fun _ => HSS.out _ (TB.new HWB.out hbx (by omega) (by omega) (by omega) hgi hgr hbt).below) ?_)
        refine wpAnyT_done (by kernel_rfl) ?_
        go_wp2_with fail
        go_meet
        exact ⟨(WB.heap.size + 1), WB.heap.size, (WB.heap.size + 1 + 1), rfl, TB.new HWB.out hbx (by omega) (by omega) (by omega) hgi hgr hbt⟩
    case f7 =>
      refine wpOpT (i := 7) rfl (fun K hK => ?_)
      go_simp
      refine hK.out _ _ (fun _ => HSS.out _ (bt HWB.out (Nat.le_refl _) ((Below.refl _ _).alloc (Nat.le_refl _) _))) ?_
      clear hK K
      (try simp only [Act.put, zA, zB, zC])
      refine wpAnyT_two (i := 3) (j := 11) (by kernel_rfl) ?f73 ?f711
      case f73 =>
        refine wpOpT (i := 3) rfl (fun K hK => ?_)
        go_simp
        refine hK.out _ _ (fun _ => HSS.out _ (bt HWB.out (Nat.le_refl _) (((Below.refl _ _).alloc (Nat.le_refl _) _).alloc (by simp) _))) ?_
        clear hK K
        (try simp only [Act.put, zA, zB, zC])
        have hHeld := HSS.out _ (bt HWB.out (Nat.le_refl _) (((Below.refl _ _).alloc (Nat.le_refl _) _).alloc (by simp) _ : Below WB.heap.size WB ((WB.alloc (.cells (madeCells #[Value.slice none 0 0] nR) 46)).alloc (.cells (madeCells #[Value.bool false] nL) 4))))
        refine wpAnyT_take (i := 10) (v := ?v10rb7311) rfl (by kernel_rfl) (fun _ _ _ h => h) (by rfl) hHeld ?h10rb7311 ?_
        case h10rb7311 => (intro w' hSw; (try dsimp only at hSw); go_simp; try with_reducible rfl)
        (try simp only [Act.put, List.setIfInBounds_toArray])
        clear hHeld
        refine wpAnyT_one (i := 11) rfl (by kernel_rfl) (fun K hK => ?_)
        go_simp
        refine hK.out _ _ (fun _ => HSS.out _ (bt HWB.out (Nat.le_refl _) ((((Below.refl _ _).alloc (Nat.le_refl _) _).alloc (by simp) _).alloc (by simp; omega) _))) ?_
        clear hK K
        (try simp only [Act.put, zA, zB, zC])
        have hgr : Blk (((WB.alloc (.cells (madeCells #[Value.slice none 0 0] nR) 46)).alloc (.cells (madeCells #[Value.bool false] nL) 4)).alloc (.cells #[.slice none 0 0, .slice none 0 0, .int .i64 0] 49)) WB.heap.size 46 (madeCells #[Value.slice none 0 0] nR) := ((Blk.new WB _ _).alloc _).alloc _
        have hgi : Blk (((WB.alloc (.cells (madeCells #[Value.slice none 0 0] nR) 46)).alloc (.cells (madeCells #[Value.bool false] nL) 4)).alloc (.cells #[.slice none 0 0, .slice none 0 0, .int .i64 0] 49)) (WB.heap.size + 1) 4 (madeCells #[Value.bool false] nL) := by
          have := (Blk.new (WB.alloc (.cells (madeCells #[Value.slice none 0 0] nR) 46)) 4 (madeCells #[Value.bool false] nL)).alloc (.cells #[.slice none 0 0, .slice none 0 0, .int .i64 0] 49)
          simpa using this
        have hbt : Blk (((WB.alloc (.cells (madeCells #[Value.slice none 0 0] nR) 46)).alloc (.cells (madeCells #[Value.bool false] nL) 4)).alloc (.cells #[.slice none 0 0, .slice none 0 0, .int .i64 0] 49)) (WB.heap.size + 1 + 1) 49 #[.slice none 0 0, .slice none 0 0, .int .i64 0] := by
          have := Blk.new ((WB.alloc (.cells (madeCells #[Value.slice none 0 0] nR) 46)).alloc (.cells (madeCells #[Value.bool false] nL) 4)) 49 #[.slice none 0 0, .slice none 0 0, .int .i64 0]
          simpa using this
        have hbx : Below WB.heap.size WB (((WB.alloc (.cells (madeCells #[Value.slice none 0 0] nR) 46)).alloc (.cells (madeCells #[Value.bool false] nL) 4)).alloc (.cells #[.slice none 0 0, .slice none 0 0, .int .i64 0] 49)) := (((Below.refl _ _).alloc (Nat.le_refl _) _).alloc (by simp) _).alloc (by simp; omega) _
        have hHeld := HSS.out _ (bt HWB.out (Nat.le_refl _) hbx)
        clear hHeld
        refine wpAnyT_one (i := 12) rfl (by kernel_rfl) (fun K hK => ?_)
        rw [if_pos (by rfl)]
        refine wp_store_row 49 (.tmp 7) (.tmp 22) rfl (WB.heap.size + 1 + 1) #[.slice (some ⟨(WB.heap.size + 1), 0, none⟩) nL nL, .slice (some ⟨WB.heap.size, 0, none⟩) nR nR, .int .i64 lp] rfl rfl 49 _ hbt (by kernel_rfl) rfl (by simp [Value.oneCell']) (hK.out _ _ (fun _ => HSS.out _ (TB.new HWB.out hbx (by omega) (by omega) (by omega) hgi hgr hbt).below) ?_)
        refine wpAnyT_done (by kernel_rfl) ?_
        go_wp2_with fail
        go_meet
        exact ⟨(WB.heap.size + 1 + 1), (WB.heap.size + 1), WB.heap.size, rfl, TB.new HWB.out hbx (by omega) (by omega) (by omega) hgi hgr hbt⟩
      case f711 =>
        refine wpOpT (i := 11) rfl (fun K hK => ?_)
        go_simp
        refine hK.out _ _ (fun _ => HSS.out _ (bt HWB.out (Nat.le_refl _) (((Below.refl _ _).alloc (Nat.le_refl _) _).alloc (by simp) _))) ?_
        clear hK K
        (try simp only [Act.put, zA, zB, zC])
        refine wpAnyT_one (i := 3) rfl (by kernel_rfl) (fun K hK => ?_)
        go_simp
        refine hK.out _ _ (fun _ => HSS.out _ (bt HWB.out (Nat.le_refl _) ((((Below.refl _ _).alloc (Nat.le_refl _) _).alloc (by simp) _).alloc (by simp; omega) _))) ?_
        clear hK K
        (try simp only [Act.put, zA, zB, zC])
        have hgr : Blk (((WB.alloc (.cells (madeCells #[Value.slice none 0 0] nR) 46)).alloc (.cells #[.slice none 0 0, .slice none 0 0, .int .i64 0] 49)).alloc (.cells (madeCells #[Value.bool false] nL) 4)) WB.heap.size 46 (madeCells #[Value.slice none 0 0] nR) := ((Blk.new WB _ _).alloc _).alloc _
        have hbt : Blk (((WB.alloc (.cells (madeCells #[Value.slice none 0 0] nR) 46)).alloc (.cells #[.slice none 0 0, .slice none 0 0, .int .i64 0] 49)).alloc (.cells (madeCells #[Value.bool false] nL) 4)) (WB.heap.size + 1) 49 #[.slice none 0 0, .slice none 0 0, .int .i64 0] := by
          have := (Blk.new (WB.alloc (.cells (madeCells #[Value.slice none 0 0] nR) 46)) 49 #[.slice none 0 0, .slice none 0 0, .int .i64 0]).alloc (.cells (madeCells #[Value.bool false] nL) 4)
          simpa using this
        have hgi : Blk (((WB.alloc (.cells (madeCells #[Value.slice none 0 0] nR) 46)).alloc (.cells #[.slice none 0 0, .slice none 0 0, .int .i64 0] 49)).alloc (.cells (madeCells #[Value.bool false] nL) 4)) (WB.heap.size + 1 + 1) 4 (madeCells #[Value.bool false] nL) := by
          have := Blk.new ((WB.alloc (.cells (madeCells #[Value.slice none 0 0] nR) 46)).alloc (.cells #[.slice none 0 0, .slice none 0 0, .int .i64 0] 49)) 4 (madeCells #[Value.bool false] nL)
          simpa using this
        have hbx : Below WB.heap.size WB (((WB.alloc (.cells (madeCells #[Value.slice none 0 0] nR) 46)).alloc (.cells #[.slice none 0 0, .slice none 0 0, .int .i64 0] 49)).alloc (.cells (madeCells #[Value.bool false] nL) 4)) := (((Below.refl _ _).alloc (Nat.le_refl _) _).alloc (by simp) _).alloc (by simp; omega) _
        have hHeld := HSS.out _ (bt HWB.out (Nat.le_refl _) hbx)
        refine wpAnyT_take (i := 10) (oi := { dst := some 22, op := Op.build 49 #[(0, Operand.tmp 15), (1, Operand.tmp 19), (2, Operand.tmp 21)], type := 49, pos := "back.go:36", after := #[{ on := 3, ground := Ground.data }, { on := 7, ground := Ground.data }, { on := 9, ground := Ground.data }], guard := none }) (v := ?v10rb7113) rfl (by kernel_rfl) (fun _ _ _ h => h) (by rfl) hHeld ?h10rb7113 ?_
        case h10rb7113 => (intro w' hSw; (try dsimp only at hSw); go_simp; try with_reducible rfl)
        (try simp only [Act.put, zA, zB, zC])
        clear hHeld
        refine wpAnyT_one (i := 12) rfl (by kernel_rfl) (fun K hK => ?_)
        rw [if_pos (by rfl)]
        refine wp_store_row 49 (.tmp 7) (.tmp 22) rfl (WB.heap.size + 1) #[.slice (some ⟨(WB.heap.size + 1 + 1), 0, none⟩) nL nL, .slice (some ⟨WB.heap.size, 0, none⟩) nR nR, .int .i64 lp] rfl rfl 49 _ hbt (by kernel_rfl) rfl (by simp [Value.oneCell']) (hK.out _ _ (fun _ => HSS.out _ (TB.new HWB.out hbx (by omega) (by omega) (by omega) hgi hgr hbt).below) ?_)
        refine wpAnyT_done (by kernel_rfl) ?_
        go_wp2_with fail
        go_meet
        exact ⟨(WB.heap.size + 1), (WB.heap.size + 1 + 1), WB.heap.size, rfl, TB.new HWB.out hbx (by omega) (by omega) (by omega) hgi hgr hbt⟩
    case f11 =>
      refine wpOpT (i := 11) rfl (fun K hK => ?_)
      go_simp
      refine hK.out _ _ (fun _ => HSS.out _ (bt HWB.out (Nat.le_refl _) ((Below.refl _ _).alloc (Nat.le_refl _) _))) ?_
      clear hK K
      (try simp only [Act.put, zA, zB, zC])
      refine wpAnyT_two (i := 3) (j := 7) (by kernel_rfl) ?f113 ?f117
      case f113 =>
        refine wpOpT (i := 3) rfl (fun K hK => ?_)
        go_simp
        refine hK.out _ _ (fun _ => HSS.out _ (bt HWB.out (Nat.le_refl _) (((Below.refl _ _).alloc (Nat.le_refl _) _).alloc (by simp) _))) ?_
        clear hK K
        (try simp only [Act.put, zA, zB, zC])
        refine wpAnyT_one (i := 7) rfl (by kernel_rfl) (fun K hK => ?_)
        go_simp
        refine hK.out _ _ (fun _ => HSS.out _ (bt HWB.out (Nat.le_refl _) ((((Below.refl _ _).alloc (Nat.le_refl _) _).alloc (by simp) _).alloc (by simp; omega) _))) ?_
        clear hK K
        (try simp only [Act.put, zA, zB, zC])
        have hbt : Blk (((WB.alloc (.cells #[.slice none 0 0, .slice none 0 0, .int .i64 0] 49)).alloc (.cells (madeCells #[Value.bool false] nL) 4)).alloc (.cells (madeCells #[Value.slice none 0 0] nR) 46)) WB.heap.size 49 #[.slice none 0 0, .slice none 0 0, .int .i64 0] := ((Blk.new WB _ _).alloc _).alloc _
        have hgi : Blk (((WB.alloc (.cells #[.slice none 0 0, .slice none 0 0, .int .i64 0] 49)).alloc (.cells (madeCells #[Value.bool false] nL) 4)).alloc (.cells (madeCells #[Value.slice none 0 0] nR) 46)) (WB.heap.size + 1) 4 (madeCells #[Value.bool false] nL) := by
          have := (Blk.new (WB.alloc (.cells #[.slice none 0 0, .slice none 0 0, .int .i64 0] 49)) 4 (madeCells #[Value.bool false] nL)).alloc (.cells (madeCells #[Value.slice none 0 0] nR) 46)
          simpa using this
        have hgr : Blk (((WB.alloc (.cells #[.slice none 0 0, .slice none 0 0, .int .i64 0] 49)).alloc (.cells (madeCells #[Value.bool false] nL) 4)).alloc (.cells (madeCells #[Value.slice none 0 0] nR) 46)) (WB.heap.size + 1 + 1) 46 (madeCells #[Value.slice none 0 0] nR) := by
          have := Blk.new ((WB.alloc (.cells #[.slice none 0 0, .slice none 0 0, .int .i64 0] 49)).alloc (.cells (madeCells #[Value.bool false] nL) 4)) 46 (madeCells #[Value.slice none 0 0] nR)
          simpa using this
        have hbx : Below WB.heap.size WB (((WB.alloc (.cells #[.slice none 0 0, .slice none 0 0, .int .i64 0] 49)).alloc (.cells (madeCells #[Value.bool false] nL) 4)).alloc (.cells (madeCells #[Value.slice none 0 0] nR) 46)) := (((Below.refl _ _).alloc (Nat.le_refl _) _).alloc (by simp) _).alloc (by simp; omega) _
        have hHeld := HSS.out _ (bt HWB.out (Nat.le_refl _) hbx)
        refine wpAnyT_take (i := 10) (oi := { dst := some 22, op := Op.build 49 #[(0, Operand.tmp 15), (1, Operand.tmp 19), (2, Operand.tmp 21)], type := 49, pos := "back.go:36", after := #[{ on := 3, ground := Ground.data }, { on := 7, ground := Ground.data }, { on := 9, ground := Ground.data }], guard := none }) (v := ?v10rb1137) rfl (by kernel_rfl) (fun _ _ _ h => h) (by rfl) hHeld ?h10rb1137 ?_
        case h10rb1137 => (intro w' hSw; (try dsimp only at hSw); go_simp; try with_reducible rfl)
        (try simp only [Act.put, zA, zB, zC])
        clear hHeld
        refine wpAnyT_one (i := 12) rfl (by kernel_rfl) (fun K hK => ?_)
        rw [if_pos (by rfl)]
        refine wp_store_row 49 (.tmp 7) (.tmp 22) rfl WB.heap.size #[.slice (some ⟨(WB.heap.size + 1), 0, none⟩) nL nL, .slice (some ⟨(WB.heap.size + 1 + 1), 0, none⟩) nR nR, .int .i64 lp] rfl rfl 49 _ hbt (by kernel_rfl) rfl (by simp [Value.oneCell']) (hK.out _ _ (fun _ => HSS.out _ (TB.new HWB.out hbx (by omega) (by omega) (by omega) hgi hgr hbt).below) ?_)
        refine wpAnyT_done (by kernel_rfl) ?_
        go_wp2_with fail
        go_meet
        exact ⟨WB.heap.size, (WB.heap.size + 1), (WB.heap.size + 1 + 1), rfl, TB.new HWB.out hbx (by omega) (by omega) (by omega) hgi hgr hbt⟩
      case f117 =>
        refine wpOpT (i := 7) rfl (fun K hK => ?_)
        go_simp
        refine hK.out _ _ (fun _ => HSS.out _ (bt HWB.out (Nat.le_refl _) (((Below.refl _ _).alloc (Nat.le_refl _) _).alloc (by simp) _))) ?_
        clear hK K
        (try simp only [Act.put, zA, zB, zC])
        refine wpAnyT_one (i := 3) rfl (by kernel_rfl) (fun K hK => ?_)
        go_simp
        refine hK.out _ _ (fun _ => HSS.out _ (bt HWB.out (Nat.le_refl _) ((((Below.refl _ _).alloc (Nat.le_refl _) _).alloc (by simp) _).alloc (by simp; omega) _))) ?_
        clear hK K
        (try simp only [Act.put, zA, zB, zC])
        have hbt : Blk (((WB.alloc (.cells #[.slice none 0 0, .slice none 0 0, .int .i64 0] 49)).alloc (.cells (madeCells #[Value.slice none 0 0] nR) 46)).alloc (.cells (madeCells #[Value.bool false] nL) 4)) WB.heap.size 49 #[.slice none 0 0, .slice none 0 0, .int .i64 0] := ((Blk.new WB _ _).alloc _).alloc _
        have hgr : Blk (((WB.alloc (.cells #[.slice none 0 0, .slice none 0 0, .int .i64 0] 49)).alloc (.cells (madeCells #[Value.slice none 0 0] nR) 46)).alloc (.cells (madeCells #[Value.bool false] nL) 4)) (WB.heap.size + 1) 46 (madeCells #[Value.slice none 0 0] nR) := by
          have := (Blk.new (WB.alloc (.cells #[.slice none 0 0, .slice none 0 0, .int .i64 0] 49)) 46 (madeCells #[Value.slice none 0 0] nR)).alloc (.cells (madeCells #[Value.bool false] nL) 4)
          simpa using this
        have hgi : Blk (((WB.alloc (.cells #[.slice none 0 0, .slice none 0 0, .int .i64 0] 49)).alloc (.cells (madeCells #[Value.slice none 0 0] nR) 46)).alloc (.cells (madeCells #[Value.bool false] nL) 4)) (WB.heap.size + 1 + 1) 4 (madeCells #[Value.bool false] nL) := by
          have := Blk.new ((WB.alloc (.cells #[.slice none 0 0, .slice none 0 0, .int .i64 0] 49)).alloc (.cells (madeCells #[Value.slice none 0 0] nR) 46)) 4 (madeCells #[Value.bool false] nL)
          simpa using this
        have hbx : Below WB.heap.size WB (((WB.alloc (.cells #[.slice none 0 0, .slice none 0 0, .int .i64 0] 49)).alloc (.cells (madeCells #[Value.slice none 0 0] nR) 46)).alloc (.cells (madeCells #[Value.bool false] nL) 4)) := (((Below.refl _ _).alloc (Nat.le_refl _) _).alloc (by simp) _).alloc (by simp; omega) _
        have hHeld := HSS.out _ (bt HWB.out (Nat.le_refl _) hbx)
        refine wpAnyT_take (i := 10) (oi := { dst := some 22, op := Op.build 49 #[(0, Operand.tmp 15), (1, Operand.tmp 19), (2, Operand.tmp 21)], type := 49, pos := "back.go:36", after := #[{ on := 3, ground := Ground.data }, { on := 7, ground := Ground.data }, { on := 9, ground := Ground.data }], guard := none }) (v := ?v10rb1173) rfl (by kernel_rfl) (fun _ _ _ h => h) (by rfl) hHeld ?h10rb1173 ?_
        case h10rb1173 => (intro w' hSw; (try dsimp only at hSw); go_simp; try with_reducible rfl)
        (try simp only [Act.put, zA, zB, zC])
        clear hHeld
        refine wpAnyT_one (i := 12) rfl (by kernel_rfl) (fun K hK => ?_)
        rw [if_pos (by rfl)]
        refine wp_store_row 49 (.tmp 7) (.tmp 22) rfl WB.heap.size #[.slice (some ⟨(WB.heap.size + 1 + 1), 0, none⟩) nL nL, .slice (some ⟨(WB.heap.size + 1), 0, none⟩) nR nR, .int .i64 lp] rfl rfl 49 _ hbt (by kernel_rfl) rfl (by simp [Value.oneCell']) (hK.out _ _ (fun _ => HSS.out _ (TB.new HWB.out hbx (by omega) (by omega) (by omega) hgi hgr hbt).below) ?_)
        refine wpAnyT_done (by kernel_rfl) ?_
        go_wp2_with fail
        go_meet
        exact ⟨WB.heap.size, (WB.heap.size + 1 + 1), (WB.heap.size + 1), rfl, TB.new HWB.out hbx (by omega) (by omega) (by omega) hgi hgr hbt⟩
  case rest =>
    obtain ⟨bz, gi, gr, rfl, htb⟩ := hcut
    have HTB := Lib.hid htb
    clear htb
    have HBL : Hid ((backI C).length = nL) := Lib.hid (by simp [backI, HNN.out.2.1])
    have HA := Lib.hid (HALL.out _ HTB.out.below)
    obtain ⟨c1, c2⟩ := HA.out.1
    go_wp2
    clear c1 c2 HA
    go_loopg [26] nL (fun j iv wx => ∃ k : Nat, k ≤ nL ∧ j = nL - k ∧ iv = .int .i64 k ∧ TB W1 wx bz gi gr nL nR lp ((backI C).take k ++ List.replicate (nL - k) false) (List.replicate nR (.slice none 0 0)) (List.replicate nR []))
    case atStart => exact ⟨0, Nat.zero_le _, rfl, rfl, by simpa using HTB.out⟩
    case round =>
      obtain ⟨k, hk, hgk, rfl, ht⟩ := hrel
      subst hgk
      have HT := Lib.hid ht
      clear ht HTB
      by_cases hlt : k < nL
      · obtain ⟨x, hx⟩ : ∃ x, C.latches[k]? = some x := ⟨_, List.getElem?_eq_getElem (by rw [HNN.out.2.1]; exact hlt)⟩
        obtain ⟨lb, off, e, hlb, hcell⟩ := HRL.out k x hx
        subst e
        have hbw := (HALL.out _ HT.out.below).2.2.2.2
        obtain ⟨x0, x1, x2⟩ := x
        have i0 := (hbw.cell (p := ⟨lb, off + (k * 3 + 0), none⟩) hlb).trans (hcell 0 _ rfl)
        have i1 := (hbw.cell (p := ⟨lb, off + (k * 3 + 1), none⟩) hlb).trans (hcell 1 _ rfl)
        have i2 := (hbw.cell (p := ⟨lb, off + (k * 3 + 2), none⟩) hlb).trans (hcell 2 _ rfl)
        simp only [Nat.add_zero, ← Nat.add_assoc] at i0 i1 i2
        have hk0 : (0 : Int) ≤ (k : Int) := by omega
        have hk1 : (k : Int) < (nL : Int) := by omega
        obtain ⟨WL, hWL⟩ : ∃ WL, wr.alloc (.cells #[.int .i64 x0, .int .i64 x1, .int .i64 x2] 64) = WL := ⟨_, rfl⟩
        have hT1 := HT.out.alloc_ (.cells #[.int .i64 x0, .int .i64 x1, .int .i64 x2] 64)
        rw [hWL] at hT1
        have HLT : Hid (WL.cell? ⟨wr.heap.size, 2, none⟩ = some (.int .i64 x2)) := Lib.hid (by rw [← hWL]; exact (Blk.new wr 64 #[.int .i64 x0, .int .i64 x1, .int .i64 x2]).cell 2)
        have HT1 := Lib.hid hT1
        have HWL := Lib.hid hWL
        have HST : Hid (((((backI C).take k ++ List.replicate (nL - k) false)).set k (decide (x2 = 1))) = (backI C).take (k + 1) ++ List.replicate (nL - (k + 1)) false) := Lib.hid (fillT_set HBL.out (by unfold backI; rw [List.getElem?_map, hx]; rfl))
        have hN2 := HT1.out.setI k (decide (x2 = 1))
        rw [HST.out] at hN2
        have HN2 := Lib.hid hN2
        have hb0 := HT1.out.bx.cell 0
        simp only [List.getElem?_toArray, List.getElem?_cons_zero] at hb0
        obtain ⟨y, hy⟩ : ∃ y, (((backI C).take k ++ List.replicate (nL - k) false))[k]? = some y := ⟨_, List.getElem?_eq_getElem (by rw [HT.out.inl]; exact hlt)⟩
        have hic := Tab.cell HT1.out.i hy
        have hif := Blk.frozen HT1.out.i k
        have HFX := Lib.hid (And.intro hb0 (And.intro hic hif))
        have hdec : (x2 == (1 : Int)) = decide (x2 = 1) := rfl
        clear hx hcell hlb hbw hT1 hWL hN2 hb0 hy hic hif
        go_upto_region 5 with (fail)
        rw [HWL.out]
        obtain ⟨hb0, hic, hif⟩ := HFX.out
        have hl2 := HLT.out
        clear i0 i1 i2
        go_wp2
        go_roundg (nL - (k + 1))
        case measure => omega
        case rel => exact ⟨k + 1, by omega, rfl, by go_num, HN2.out⟩
      · have hke : nL = k := by omega
        have hk1 : ¬ (k : Int) < (nL : Int) := by omega
        have HT2 : Hid (TB W1 wr bz gi gr nL nR lp (backI C) (List.replicate nR (.slice none 0 0)) (List.replicate nR [])) := Lib.hid (by
          have := HT.out
          rwa [List.take_of_length_le (by rw [HBL.out, hke]; exact Nat.le_refl _), ← hke, Nat.sub_self, List.replicate_zero, List.append_nil] at this)
        clear HT hke
        have HA := Lib.hid (HALL.out _ HT2.out.below)
        obtain ⟨c12, c13⟩ := HA.out.2.1
        obtain ⟨u0, u1, u2⟩ := HA.out.2.2.1
        have hb0 := HT2.out.bx.cell 0
        simp only [List.getElem?_toArray, List.getElem?_cons_zero] at hb0
        have HPUT := Lib.hid (put_any W1 wr gi nL (backI C) tv Ui T t.init HT2.out.below HT2.out.il HT2.out.i HBL.out (HROW.out W1 (Below.refl _ _)).2.1 (HROW.out W1 (Below.refl _ _)).2.2 HT_.out (by rw [HTL.out]; exact Nat.le_refl _))
        go_upto_region 8 with (go_at_call 77; refine HPUT.out.mono ?_; rintro e w2 ⟨rfl, hgr, htab⟩; have HT3 := Lib.hid (HT2.out.ini_ hgr htab (by rw [putS_len]; exact HBL.out)); clear hgr htab)
        clear c12 c13 u0 u1 u2 hb0 HA
        have HA := Lib.hid (HALL.out _ HT3.out.below)
        obtain ⟨u0, u1, u2⟩ := HA.out.2.2.1
        go_wp2
        clear u0 u1 u2 HA
        go_loopg [49] nR (fun j iv wx => ∃ (k : Nat) (us : List Value), k ≤ nR ∧ j = nR - k ∧ iv = .int .i64 k ∧ TB W1 wx bz gi gr nL nR lp (putS (backI C) T t.init) us ((t.rows.map (backR C I)).take k ++ List.replicate (nR - k) []))
        case atStart => exact ⟨0, _, Nat.zero_le _, rfl, rfl, by simpa using HT3.out⟩
        case round =>
          obtain ⟨k, us, hk, hgk, rfl, ht⟩ := hrel
          subst hgk
          have HT := Lib.hid ht
          clear ht HT3 HT2
          by_cases hlt : k < nR
          · obtain ⟨x, hx⟩ : ∃ x, t.rows[k]? = some x := ⟨_, List.getElem?_eq_getElem (by rw [HNN.out.2.2.1]; exact hlt)⟩
            obtain ⟨rb, roff, u0, e, hrb, hrc, hrw⟩ := HRR.out k x hx
            subst e
            have hbw := (HALL.out _ HT.out.below).2.2.2.2
            have i0 := (hbw.cell (p := ⟨rb, roff + k, none⟩) hrb).trans hrc
            have HU0 : Hid (RowE 1 encO W1 u0 x) := Lib.hid (hrw.below HB1.out)
            have hk0 : (0 : Int) ≤ (k : Int) := by omega
            have hk1 : (k : Int) < (nR : Int) := by omega
            obtain ⟨WD, hWD⟩ : ∃ WD, wr.drew = WD := ⟨_, rfl⟩
            have HWD2 := Lib.hid hWD
            have hbd : Below wr.heap.size wr WD := by rw [← hWD]; exact (Below.refl _ _).drew
            have HTD := Lib.hid (HT.out.on hbd)
            have hbm : Below WD.heap.size WD (WD.alloc (.cells (madeCells #[Value.bool false] nI) 4)) := (Below.refl _ _).alloc (Nat.le_refl _) _
            have hgn := Blk.new WD 4 (madeCells #[Value.bool false] nI)
            obtain ⟨WM, hWM⟩ : ∃ WM, WD.alloc (.cells (madeCells #[Value.bool false] nI) 4) = WM := ⟨_, rfl⟩
            rw [hWM] at hbm hgn
            have HWM := Lib.hid hWM
            obtain ⟨g, hg⟩ : ∃ g, WD.heap.size = g := ⟨_, rfl⟩
            rw [hg] at hgn
            have HG := Lib.hid hg
            have HTM := Lib.hid (HTD.out.on hbm)
            have HBM : Hid (Below wr.heap.size wr WM) := Lib.hid (bt hbd (Nat.le_refl _) hbm)
            have HGW : Hid (wr.heap.size ≤ g) := Lib.hid (by have := hbd.size; omega)
            have HGN := Lib.hid hgn
            have HAL : Hid (∀ wz, TB W1 wz bz gi gr nL nR lp (putS (backI C) T t.init) us ((t.rows.map (backR C I)).take k ++ List.replicate (nR - k) []) → wz.cell? ⟨bz, 1, none⟩ = some (.slice (some ⟨gr, 0, none⟩) nR nR) ∧ wz.cell? ⟨w.heap.size, 1, none⟩ = some (.slice AI nI cI) ∧ wz.cell? ⟨w.heap.size + 1, 12, none⟩ = some iv) := Lib.hid (fun wz h => ⟨h.bx.cell 1, (HALL.out _ h.below).1.1, (HALL.out _ h.below).2.1.1⟩)
            have HGE : Hid (gr < g ∧ bz < g ∧ bz ≠ gr ∧ w.heap.size + 1 < gr) := Lib.hid (by
              have h1 := HTD.out.r.lt
              have h2 := HTD.out.bx.lt
              have h3 := HTD.out.ne.2.2
              have h4 := HTD.out.rl
              have h5 := HS1.out
              exact ⟨by omega, by omega, h3, by omega⟩)
            obtain ⟨y, hy⟩ : ∃ y, us[k]? = some y := ⟨_, List.getElem?_eq_getElem (by rw [HT.out.ul]; exact hlt)⟩
            have ci : WM.cell? ⟨gr, k, none⟩ = some y := by
              rw [HTM.out.r.cell]
              simpa using hy
            have fi := Blk.frozen HTM.out.r k
            have HSTO : Hid ((WM.setCell ⟨gr, k, none⟩ (.slice (some ⟨g, 0, none⟩) nI nI)).cell? ⟨bz, 1, none⟩ = some (.slice (some ⟨gr, 0, none⟩) nR nR) ∧ (WM.setCell ⟨gr, k, none⟩ (.slice (some ⟨g, 0, none⟩) nI nI)).cell? ⟨w.heap.size, 1, none⟩ = some (.slice AI nI cI) ∧ (WM.setCell ⟨gr, k, none⟩ (.slice (some ⟨g, 0, none⟩) nI nI)).cell? ⟨w.heap.size + 1, 12, none⟩ = some iv ∧ (WM.setCell ⟨gr, k, none⟩ (.slice (some ⟨g, 0, none⟩) nI nI)).cell? ⟨gr, k, none⟩ = some (.slice (some ⟨g, 0, none⟩) nI nI) ∧ Tab (WM.setCell ⟨gr, k, none⟩ (.slice (some ⟨g, 0, none⟩) nI nI)) g (List.replicate nI false)) := Lib.hid (by
              obtain ⟨a1, a2, a3⟩ := HAL.out _ HTM.out
              obtain ⟨g1, g2, g3, g4⟩ := HGE.out
              refine ⟨(cell_heapC (Below.heap_setCell _ _ _ _ (by simpa using g3))).trans a1, (cell_heapC (Below.heap_setCell _ _ _ _ (by simp; omega))).trans a2, (cell_heapC (Below.heap_setCell _ _ _ _ (by simp; omega))).trans a3, ?_, ?_⟩
              · have := (Blk.set_ HTM.out.r k (.slice (some ⟨g, 0, none⟩) nI nI)).cell k
                rw [this]
                have hkl := (List.getElem?_eq_some_iff.1 hy).1
                simp [hkl]
              · have h1 := HGN.out
                rw [made_bool] at h1
                exact (Below.heap_setCell _ _ _ _ (by simp; omega)).trans h1)
            have HX := Lib.hid hx
            clear hx hrb hrc hrw hbw hbd hbm hgn hWD hWM hg hy
            go_upto_region 11 with (fail)
            refine wp_region_T (by kernel_rfl) (fun w' => w'.cell? ⟨bz, 1, none⟩ = some (.slice (some ⟨gr, 0, none⟩) nR nR) ∧ w'.cell? ⟨w.heap.size, 1, none⟩ = some (.slice AI nI cI)) 9 ?_
            rw [HWD2.out]
            have hHeld : WD.cell? ⟨bz, 1, none⟩ = some (.slice (some ⟨gr, 0, none⟩) nR nR) ∧ WD.cell? ⟨w.heap.size, 1, none⟩ = some (.slice AI nI cI) := ⟨(HAL.out _ HTD.out).1, (HAL.out _ HTD.out).2.1⟩
            clear i0
            refine wpAnyT_take (i := 0) (v := ?v0r11) rfl (by kernel_rfl) (fun _ _ _ h => h) (by rfl) hHeld ?h0r11 ?_
            case h0r11 => (intro w' hSw; (try dsimp only at hSw); go_simp; try with_reducible rfl)
            (try simp only [Act.put, List.setIfInBounds_toArray])
            refine wpAnyT_take (i := 1) (v := ?v1r11) rfl (by kernel_rfl) (fun _ _ _ h => h) (by rfl) hHeld ?h1r11 ?_
            case h1r11 => (intro w' hSw; (try dsimp only at hSw); go_simp; try with_reducible rfl)
            (try simp only [Act.put])
            refine wpAnyT_take (i := 2) (v := ?v2r11) rfl (by kernel_rfl) (fun _ _ _ h => h) (by rfl) hHeld ?h2r11 ?_
            case h2r11 => (intro w' hSw; (try dsimp only at hSw); go_simp; try with_reducible rfl)
            (try simp only [Act.put])
            refine wpAnyT_take (i := 3) (v := ?v3r11) rfl (by kernel_rfl) (fun _ _ _ h => h) (by rfl) hHeld ?h3r11 ?_
            case h3r11 => (intro w' hSw; (try dsimp only at hSw); go_simp; try with_reducible rfl)
            (try simp only [Act.put])
            refine wpAnyT_take (i := 4) (v := ?v4r11) rfl (by kernel_rfl) (fun _ _ _ h => h) (by rfl) hHeld ?h4r11 ?_
            case h4r11 => (intro w' hSw; (try dsimp only at hSw); go_simp; try with_reducible rfl)
            (try simp only [Act.put])
            refine wpAnyT_take (i := 5) (v := ?v5r11) rfl (by kernel_rfl) (fun _ _ _ h => h) (by rfl) hHeld ?h5r11 ?_
            case h5r11 => (intro w' hSw; (try dsimp only at hSw); go_simp; try with_reducible rfl)
            (try simp only [Act.put])
            clear hHeld
            refine wpAnyT_one (i := 6) rfl (by kernel_rfl) (fun K hK => ?_)
            go_simp
            rw [HWM.out, HG.out]
            refine hK.out _ _ (fun _ => ⟨(HAL.out _ HTM.out).1, (HAL.out _ HTM.out).2.1⟩) ?_
            clear hK K
            (try simp only [Act.put, zA, zB, zC])
            have hHeld : WM.cell? ⟨bz, 1, none⟩ = some (.slice (some ⟨gr, 0, none⟩) nR nR) ∧ WM.cell? ⟨w.heap.size, 1, none⟩ = some (.slice AI nI cI) := ⟨(HAL.out _ HTM.out).1, (HAL.out _ HTM.out).2.1⟩
            refine wpAnyT_take (i := 7) (v := ?v7r11) rfl (by kernel_rfl) (fun _ _ _ h => h) (by rfl) hHeld ?h7r11 ?_
            case h7r11 => (intro w' hSw; (try dsimp only at hSw); go_simp; try with_reducible rfl)
            (try simp only [Act.put, List.setIfInBounds_toArray])
            clear hHeld
            refine wpAnyT_one (i := 8) rfl (by kernel_rfl) (fun K hK => ?_)
            go_simp
            refine hK.out _ _ (fun _ => ⟨HSTO.out.1, HSTO.out.2.1⟩) ?_
            clear hK K
            (try simp only [Act.put, zA, zB, zC])
            refine wpAnyT_done (by kernel_rfl) ?_
            clear ci fi
            have HPUT := Lib.hid (put_any W1 (WM.setCell ⟨gr, k, none⟩ (.slice (some ⟨g, 0, none⟩) nI nI)).drew g nI (List.replicate nI false) iv u0 I x ((HTM.out.below.setCell (p := ⟨gr, k, none⟩) HTM.out.rl _).drew) (by have := HTM.out.below.size; have := HGW.out; have := HT.out.below.size; omega) HSTO.out.2.2.2.2 (by simp) (HROW.out W1 (Below.refl _ _)).1 HU0.out HI_.out (by rw [HIL.out x (List.mem_of_getElem? HX.out)]; exact Nat.le_refl _))
            obtain ⟨W5, hW5⟩ : ∃ W5, WM.setCell ⟨gr, k, none⟩ (.slice (some ⟨g, 0, none⟩) nI nI) = W5 := ⟨_, rfl⟩
            rw [hW5] at HPUT HSTO
            rw [hW5]
            have HW5 := Lib.hid hW5
            clear hW5
            go_upto_region 12 with (fail)
            refine wp_region_T (by kernel_rfl) (fun w' => w'.cell? ⟨bz, 1, none⟩ = some (.slice (some ⟨gr, 0, none⟩) nR nR) ∧ w'.cell? ⟨gr, k, none⟩ = some (.slice (some ⟨g, 0, none⟩) nI nI) ∧ w'.cell? ⟨w.heap.size + 1, 12, none⟩ = some iv) 9 ?_
            have hHeld : W5.drew.cell? ⟨bz, 1, none⟩ = some (.slice (some ⟨gr, 0, none⟩) nR nR) ∧ W5.drew.cell? ⟨gr, k, none⟩ = some (.slice (some ⟨g, 0, none⟩) nI nI) ∧ W5.drew.cell? ⟨w.heap.size + 1, 12, none⟩ = some iv := ⟨HSTO.out.1, HSTO.out.2.2.2.1, HSTO.out.2.2.1⟩
            refine wpAnyT_take (i := 0) (v := ?v0r12) rfl (by kernel_rfl) (fun _ _ _ h => h) (by rfl) hHeld ?h0r12 ?_
            case h0r12 => (intro w' hSw; (try dsimp only at hSw); go_simp; try with_reducible rfl)
            (try simp only [Act.put, List.setIfInBounds_toArray])
            refine wpAnyT_take (i := 1) (v := ?v1r12) rfl (by kernel_rfl) (fun _ _ _ h => h) (by rfl) hHeld ?h1r12 ?_
            case h1r12 => (intro w' hSw; (try dsimp only at hSw); go_simp; try with_reducible rfl)
            (try simp only [Act.put])
            refine wpAnyT_take (i := 2) (v := ?v2r12) rfl (by kernel_rfl) (fun _ _ _ h => h) (by rfl) hHeld ?h2r12 ?_
            case h2r12 => (intro w' hSw; (try dsimp only at hSw); go_simp; try with_reducible rfl)
            (try simp only [Act.put])
            refine wpAnyT_take (i := 3) (v := ?v3r12) rfl (by kernel_rfl) (fun _ _ _ h => h) (by rfl) hHeld ?h3r12 ?_
            case h3r12 => (intro w' hSw; (try dsimp only at hSw); go_simp; try with_reducible rfl)
            (try simp only [Act.put])
            refine wpAnyT_take (i := 4) (v := ?v4r12) rfl (by kernel_rfl) (fun _ _ _ h => h) (by rfl) hHeld ?h4r12 ?_
            case h4r12 => (intro w' hSw; (try dsimp only at hSw); go_simp; try with_reducible rfl)
            (try simp only [Act.put])
            refine wpAnyT_take (i := 5) (v := ?v5r12) rfl (by kernel_rfl) (fun _ _ _ h => h) (by rfl) hHeld ?h5r12 ?_
            case h5r12 => (intro w' hSw; (try dsimp only at hSw); go_simp; try with_reducible rfl)
            (try simp only [Act.put])
            refine wpAnyT_take (i := 6) (v := ?v6r12) rfl (by kernel_rfl) (fun _ _ _ h => h) (by rfl) hHeld ?h6r12 ?_
            case h6r12 => (intro w' hSw; (try dsimp only at hSw); go_simp; try with_reducible rfl)
            (try simp only [Act.put])
            refine wpAnyT_take (i := 7) (v := ?v7r12) rfl (by kernel_rfl) (fun _ _ _ h => h) (by rfl) hHeld ?h7r12 ?_
            case h7r12 => (intro w' hSw; (try dsimp only at hSw); go_simp; try with_reducible rfl)
            (try simp only [Act.put])
            clear hHeld
            refine wpAnyT_one (i := 8) rfl (by kernel_rfl) (fun K hK => ?_)
            go_simp
            go_at_call 77
            refine HPUT.out.mono ?_
            rintro e w7 ⟨rfl, hgr, htab⟩
            have HN2 : Hid (TB W1 w7 bz gi gr nL nR lp (putS (backI C) T t.init) (us.set k (.slice (some ⟨g, 0, none⟩) nI nI)) ((t.rows.map (backR C I)).take (k + 1) ++ List.replicate (nR - (k + 1)) [])) := Lib.hid (by
              have hb2 : Below wr.heap.size wr WM.drew := HBM.out.drew
              have e : W5.drew = WM.drew.setCell ⟨gr, k, none⟩ (.slice (some ⟨g, 0, none⟩) nI nI) := by rw [← HW5.out]; rfl
              rw [e] at hgr
              have h1 := HT.out.row (q := k) hlt hb2 HGW.out hgr htab (by rw [putS_len]; simp) (by simp only [maxLen]; omega)
              rwa [rowMid (by rw [List.length_map]; exact HNN.out.2.2.1) (show (t.rows.map (backR C I))[k]? = some (putS (List.replicate nI false) I x) by rw [List.getElem?_map, HX.out]; unfold backR; rw [HNN.out.1]; rfl)] at h1)
            clear hgr htab
            have hgrk : w7.cell? ⟨gr, k, none⟩ = some (.slice (some ⟨g, 0, none⟩) nI nI) := by
              rw [HN2.out.r.cell]
              have hkl : k < us.length := by rw [HT.out.ul]; exact hlt
              simp [hkl]
            refine hK.out _ _ (fun _ => ⟨HN2.out.bx.cell 1, hgrk, (HALL.out _ HN2.out.below).2.1.1⟩) ?_
            clear hK K
            (try simp only [Act.put, zA, zB, zC])
            refine wpAnyT_done (by kernel_rfl) ?_
            go_wp2
            go_roundg (nR - (k + 1))
            case measure => omega
            case rel => first
              | exact ⟨k + 1, _, by omega, rfl, by go_num, HN2.out⟩
              | ((repeat apply Exists.intro); exact ⟨⟨k + 1, _, by omega, rfl, by go_num, HN2.out⟩, rfl⟩)
          · have hke : nR = k := by omega
            have hk1 : ¬ (k : Int) < (nR : Int) := by omega
            have hct : TB W1 wr bz gi gr nL nR lp (backT C I T t).init us (backT C I T t).rows := by
              have h9 := HT.out
              rwa [List.take_of_length_le (by rw [List.length_map, HNN.out.2.2.1, hke]; exact Nat.le_refl _), ← hke, Nat.sub_self, List.replicate_zero, List.append_nil] at h9
            have hA := HALL.out _ hct.below
            have hbk := hA.2.2.2.1
            have hsz := HS1.out
            have hfi := hct.fin (t := backT C I T t) rfl rfl hbk (by simp only [maxLen]; omega) (by simp only [maxLen]; omega) (.slice (some ⟨gi, 0, none⟩) nL nL) (.slice (some ⟨gr, 0, none⟩) nR nR) (.int .i64 lp)
            have hbf := (((hA.2.2.2.2).setCell (p := ⟨w.heap.size + 1 + 1 + 1, 0, none⟩) (by simp; omega) (.slice (some ⟨gi, 0, none⟩) nL nL)).setCell (p := ⟨w.heap.size + 1 + 1 + 1, 1, none⟩) (by simp; omega) (.slice (some ⟨gr, 0, none⟩) nR nR)).setCell (p := ⟨w.heap.size + 1 + 1 + 1, 2, none⟩) (by simp; omega) (.int .i64 lp)
            have hmb := Blk.set_ (Blk.set_ (Blk.set_ hbk 0 (.slice (some ⟨gi, 0, none⟩) nL nL)) 1 (.slice (some ⟨gr, 0, none⟩) nR nR)) 2 (.int .i64 lp)
            have q0 := hbk.cell 0
            have q1 := hbk.cell 1
            have q2 := hbk.cell 2
            have q4 := hbk.frozen 0
            have q5 := hbk.frozen 1
            have q6 := hbk.frozen 2
            have q8 := hbk.lt
            have m0 := hct.bx.cell 0
            have m1 := hct.bx.cell 1
            have m4 := hct.bx.cell 2
            simp only [List.getElem?_toArray, List.getElem?_cons_zero, List.getElem?_cons_succ] at q0 q1 q2 m0 m1 m4
            obtain ⟨XX, hX⟩ : ∃ XX, XX = (((wr.setCell ⟨w.heap.size + 1 + 1 + 1, 0, none⟩ (.slice (some ⟨gi, 0, none⟩) nL nL)).setCell ⟨w.heap.size + 1 + 1 + 1, 1, none⟩ (.slice (some ⟨gr, 0, none⟩) nR nR)).setCell ⟨w.heap.size + 1 + 1 + 1, 2, none⟩ (.int .i64 lp)) := ⟨_, rfl⟩
            rw [← hX] at hfi hbf hmb
            have z0 : XX.cell? ⟨w.heap.size + 1 + 1 + 1, 0, none⟩ = some (.slice (some ⟨gi, 0, none⟩) nL nL) := by rw [hmb.cell]; rfl
            have z1 : XX.cell? ⟨w.heap.size + 1 + 1 + 1, 1, none⟩ = some (.slice (some ⟨gr, 0, none⟩) nR nR) := by rw [hmb.cell]; rfl
            have z2 : XX.cell? ⟨w.heap.size + 1 + 1 + 1, 2, none⟩ = some (.int .i64 lp) := by rw [hmb.cell]; rfl
            have HFIN := Lib.hid (And.intro hbf (OwnT.le hfi (B' := w.heap.size) (by omega)))
            have HXX := Lib.hid hX
            clear hbk hfi hbf hmb hX hct hke hA hsz
            go_wp2
            rw [← HXX.out]
            refine bodyPost_ret (v := .agg #[.slice (some ⟨gi, 0, none⟩) nL nL, .slice (some ⟨gr, 0, none⟩) nR nR, .int .i64 lp]) (by simp [results, Try.results39, go_sem, z0, z1, z2]) rfl ?_
            exact ⟨HFIN.out.1, ⟨_, _⟩, rfl, HFIN.out.2⟩
end Go.Proofs.Ytagffmalmkcboaa

namespace Go.Proofs.Ytagffmalmkcboaa
open Go.RowKit Go.Maps

theorem cells14 {w' : World} {b : Nat} {t : TypeId} {a0 a1 a2 a3 a4 a5 a6 a7 a8 a9 a10 a11 a12 a13 : Value} (h : Blk w' b t #[a0, a1, a2, a3, a4, a5, a6, a7, a8, a9, a10, a11, a12, a13]) : w'.cell? ⟨b, 0, none⟩ = some a0 ∧ w'.cell? ⟨b, 1, none⟩ = some a1 ∧ w'.cell? ⟨b, 2, none⟩ = some a2 ∧ w'.cell? ⟨b, 3, none⟩ = some a3 ∧ w'.cell? ⟨b, 4, none⟩ = some a4 ∧ w'.cell? ⟨b, 5, none⟩ = some a5 ∧ w'.cell? ⟨b, 6, none⟩ = some a6 ∧ w'.cell? ⟨b, 7, none⟩ = some a7 ∧ w'.cell? ⟨b, 8, none⟩ = some a8 ∧ w'.cell? ⟨b, 9, none⟩ = some a9 ∧ w'.cell? ⟨b, 10, none⟩ = some a10 ∧ w'.cell? ⟨b, 11, none⟩ = some a11 ∧ w'.cell? ⟨b, 12, none⟩ = some a12 ∧ w'.cell? ⟨b, 13, none⟩ = some a13 :=
  ⟨h.cell 0, h.cell 1, h.cell 2, h.cell 3, h.cell 4, h.cell 5, h.cell 6, h.cell 7, h.cell 8, h.cell 9, h.cell 10, h.cell 11, h.cell 12, h.cell 13⟩
def traE (C : Circ) (I T : List Int) (t : Tr) : Int := if (checkR C).2 ≠ 0 then (checkR C).2 else if riseB (C.inputs.length : Int) (-1) I = true ∧ riseB (C.latches.length : Int) (-1) T = true ∧ fitC T.length I.length t = true then 0 else 4
def traR (C : Circ) (I T : List Int) (t : Tr) : Tr := if traE C I T t = 0 then backT C I T t else ⟨[], [], 0⟩
theorem riseB_rng {n : Int} : ∀ {L : List Int} {a : Int}, riseB n a L = true → ∀ x ∈ L, a < x ∧ x < n
  | [], _, _, _, h => by cases h
  | y :: r, a, h, x, hx => by
    unfold riseB at h
    split at h
    · cases h
    · rename_i hn
      rcases List.mem_cons.1 hx with e | e
      · subst e; omega
      · have := riseB_rng h x e
        omega
theorem OwnT.out_ {w w' : World} {B : Nat} {t : Tr} {U : TV} (h : OwnT w B t U) (hk : ∀ k, B ≤ k → k < w.heap.size → w'.heap[k]? = w.heap[k]?) : OwnT w' B t U := by
  obtain ⟨us, h1, h2, h3⟩ := h.ex
  have ho : ∀ {t : TypeId} {k n : Nat} {v : Value} {xs : List Value}, w.ownsRow B t k v n xs → w'.ownsRow B t k v n xs := fun hr => own_of_block hr fun g hg => hk g (hr.lt g hg).1 (hr.lt g hg).2
  exact ⟨ho h.i, us, h1, ho h2, fun i u zs hu hz => ho (h3 i u zs hu hz)⟩
theorem own_oneT {w : World} {B : Nat} {t : Tr} {U : TV} (h : OwnT w B t U) (k : Int) : (#[U.i, U.r, .int .i64 k] : Array Value).all (·.oneCell') = true := by
  obtain ⟨us, _, h2, _⟩ := h.ex
  obtain ⟨_, _, e1⟩ := own_slice1 h.i
  obtain ⟨_, _, e2⟩ := own_slice1 h2
  rw [e1, e2]
  simp [Value.oneCell']
theorem noT_own (w : World) (B : Nat) : OwnT w B ⟨[], [], 0⟩ ⟨.slice none 0 0, .slice none 0 0⟩ := ⟨⟨by simp, .inl ⟨rfl, rfl⟩⟩, [], rfl, ⟨by simp, .inl ⟨rfl, rfl⟩⟩, fun i u zs hu _ => by simp at hu⟩
theorem traR_no {C : Circ} {I T : List Int} {t : Tr} (h : traE C I T t ≠ 0) : traR C I T t = ⟨[], [], 0⟩ := by unfold traR; rw [if_neg h]
theorem fitC_parts {nl ni : Nat} {t : Tr} (h : fitC nl ni t = true) : t.init.length = nl ∧ t.rows.length ≤ 512 ∧ ∀ r ∈ t.rows, r.length = ni := by
  unfold fitC at h
  simpa [Bool.and_eq_true] using h

set_option maxHeartbeats 4000000 in
set_option maxRecDepth 100000 in
theorem coneTrace_any (w : World) (V : CV) (C : Circ) (X : CV) (mx : Int) (lv iv tv : Value) (I T : List Int) (U : TV) (t : Tr) (h : C.In w V) (ok : C.Ok) (hi : RowE 1 encI w iv I) (ht : RowE 1 encI w tv T) (hu : t.In w U) :
    Calls Try.prog 17 #[V.val C.max, .agg (cutCells X mx lv iv tv), U.val t.loop] w fun e w' => Below w.heap.size w w' ∧ ∃ U' : TV, e = .returned (.tuple #[U'.val (traR C I T t).loop, .int .i64 (traE C I T t)]) ∧ OwnT w' w.heap.size (traR C I T t) U' := by
  obtain ⟨W1, hW1⟩ : ∃ W1, (((w.alloc (.cells (V.cells C.max) 29)).alloc (.cells (cutCells X mx lv iv tv) 34)).alloc (.cells (U.cells t.loop) 49)).alloc (.cells #[.slice none 0 0, .slice none 0 0, .int .i64 0] 49) = W1 := ⟨_, rfl⟩
  have HS1 : Hid (W1.heap.size = w.heap.size + 1 + 1 + 1 + 1) := Lib.hid (by rw [← hW1]; simp)
  have hb1 : Below w.heap.size w W1 := by rw [← hW1]; exact ((((Below.refl _ _).alloc (Nat.le_refl _) _).alloc (by simp) _).alloc (by simp; omega) _).alloc (by simp; omega) _
  have HALL : Hid (∀ wz, Below W1.heap.size W1 wz → wz.heap[w.heap.size]? = some (.cells (V.cells C.max) 29 (0, 0)) ∧ wz.heap[w.heap.size + 1]? = some (.cells (cutCells X mx lv iv tv) 34 (0, 0)) ∧ wz.heap[w.heap.size + 1 + 1]? = some (.cells (U.cells t.loop) 49 (0, 0)) ∧ Blk wz (w.heap.size + 1 + 1 + 1) 49 #[.slice none 0 0, .slice none 0 0, .int .i64 0] ∧ Below w.heap.size w wz) := Lib.hid (fun wz hb => by
    have h1 : Blk W1 w.heap.size 29 (V.cells C.max) := by rw [← hW1]; exact (((Blk.new w _ _).alloc _).alloc _).alloc _
    have h2 : Blk W1 (w.heap.size + 1) 34 (cutCells X mx lv iv tv) := by
      rw [← hW1]
      have := ((Blk.new (w.alloc (.cells (V.cells C.max) 29)) 34 (cutCells X mx lv iv tv)).alloc (.cells (U.cells t.loop) 49)).alloc (.cells #[.slice none 0 0, .slice none 0 0, .int .i64 0] 49)
      simpa using this
    have h3 : Blk W1 (w.heap.size + 1 + 1) 49 (U.cells t.loop) := by
      rw [← hW1]
      have := (Blk.new ((w.alloc (.cells (V.cells C.max) 29)).alloc (.cells (cutCells X mx lv iv tv) 34)) 49 (U.cells t.loop)).alloc (.cells #[.slice none 0 0, .slice none 0 0, .int .i64 0] 49)
      simpa using this
    have h4 : Blk W1 (w.heap.size + 1 + 1 + 1) 49 #[.slice none 0 0, .slice none 0 0, .int .i64 0] := by
      rw [← hW1]
      have := Blk.new (((w.alloc (.cells (V.cells C.max) 29)).alloc (.cells (cutCells X mx lv iv tv) 34)).alloc (.cells (U.cells t.loop) 49)) 49 #[.slice none 0 0, .slice none 0 0, .int .i64 0]
      simpa using this
    exact ⟨h1.below hb h1.lt, h2.below hb h2.lt, h3.below hb h3.lt, h4.below hb h4.lt, hb1.trans (hb.mono hb1.size)⟩)
  have hck := Check_any W1 V C (h.below hb1) ok
  by_cases hz : (checkR C).2 = 0
  · have hrt := right_of hz
    obtain ⟨a, hck2⟩ : ∃ a, checkR C = (a, 0) := ⟨(checkR C).1, by rw [← hz]⟩
    rw [hck2] at hck
    have HCK := Lib.hid hck
    obtain ⟨AL, cL, eL, _, _, _⟩ := h.l
    obtain ⟨AI, cI, eI, _, _, _⟩ := h.i
    have HIN : Hid (∀ wz, Below W1.heap.size W1 wz → C.In wz V ∧ RowE 1 encI wz iv I ∧ RowE 1 encI wz tv T ∧ t.In wz U) := Lib.hid (fun wz hb => by
      have h1 := hb1.trans (hb.mono hb1.size)
      exact ⟨h.below h1, hi.below h1, ht.below h1, hu.below h1⟩)
    obtain ⟨nI, hnI⟩ : ∃ n, C.inputs.length = n := ⟨_, rfl⟩
    obtain ⟨nL, hnL⟩ : ∃ n, C.latches.length = n := ⟨_, rfl⟩
    rw [hnL] at eL
    rw [hnI] at eI
    have HEL := Lib.hid eL
    have HEI := Lib.hid eI
    have HCE : Hid (∀ wz, Below W1.heap.size W1 wz → (wz.cell? ⟨w.heap.size, 1, none⟩ = some (.slice AI nI cI) ∧ wz.cell? ⟨w.heap.size, 2, none⟩ = some (.slice AL nL cL)) ∧ (wz.cell? ⟨w.heap.size + 1, 0, none⟩ = some (.int .i64 mx) ∧ wz.cell? ⟨w.heap.size + 1, 1, none⟩ = some (X.i) ∧ wz.cell? ⟨w.heap.size + 1, 2, none⟩ = some (X.l) ∧ wz.cell? ⟨w.heap.size + 1, 3, none⟩ = some (X.o) ∧ wz.cell? ⟨w.heap.size + 1, 4, none⟩ = some (X.b) ∧ wz.cell? ⟨w.heap.size + 1, 5, none⟩ = some (X.c) ∧ wz.cell? ⟨w.heap.size + 1, 6, none⟩ = some (X.j) ∧ wz.cell? ⟨w.heap.size + 1, 7, none⟩ = some (X.f) ∧ wz.cell? ⟨w.heap.size + 1, 8, none⟩ = some (X.a) ∧ wz.cell? ⟨w.heap.size + 1, 9, none⟩ = some (X.s) ∧ wz.cell? ⟨w.heap.size + 1, 10, none⟩ = some (X.t) ∧ wz.cell? ⟨w.heap.size + 1, 11, none⟩ = some (lv) ∧ wz.cell? ⟨w.heap.size + 1, 12, none⟩ = some (iv) ∧ wz.cell? ⟨w.heap.size + 1, 13, none⟩ = some (tv)) ∧ wz.cell? ⟨w.heap.size + 1 + 1, 0, none⟩ = some U.i ∧ wz.cell? ⟨w.heap.size + 1 + 1, 1, none⟩ = some U.r ∧ wz.cell? ⟨w.heap.size + 1 + 1, 2, none⟩ = some (.int .i64 t.loop)) := Lib.hid (fun wz hb => by
      obtain ⟨k1, k2, k3, _⟩ := HALL.out wz hb
      have a1 := (show Blk wz w.heap.size 29 (V.cells C.max) from k1).cell 1
      have a2 := (show Blk wz w.heap.size 29 (V.cells C.max) from k1).cell 2
      simp only [CV.cells, List.getElem?_toArray, List.getElem?_cons_zero, List.getElem?_cons_succ] at a1 a2
      rw [HEI.out] at a1
      rw [HEL.out] at a2
      exact ⟨⟨a1, a2⟩, cells14 (show Blk wz (w.heap.size + 1) 34 (cutCells X mx lv iv tv) from k2), (show Blk wz (w.heap.size + 1 + 1) 49 (U.cells t.loop) from k3).cell 0, (show Blk wz (w.heap.size + 1 + 1) 49 (U.cells t.loop) from k3).cell 1, (show Blk wz (w.heap.size + 1 + 1) 49 (U.cells t.loop) from k3).cell 2⟩)
    obtain ⟨ra, hra⟩ : ∃ b, riseB (nI : Int) (-1) I = b := ⟨_, rfl⟩
    obtain ⟨rb, hrb⟩ : ∃ b, riseB (nL : Int) (-1) T = b := ⟨_, rfl⟩
    obtain ⟨rf, hrf⟩ : ∃ b, fitC T.length I.length t = b := ⟨_, rfl⟩
    have HAI := Lib.hid (fun (wx : World) (hb : Below W1.heap.size W1 wx) => areNumbers_any wx iv I (nI : Int) (HIN.out wx hb).2.1)
    have HAT := Lib.hid (fun (wx : World) (hb : Below W1.heap.size W1 wx) => areNumbers_any wx tv T (nL : Int) (HIN.out wx hb).2.2.1)
    have HFT := Lib.hid (fun (wx : World) (hb : Below W1.heap.size W1 wx) => fits_any wx X mx t.loop lv iv tv I T U t (HIN.out wx hb).2.1 (HIN.out wx hb).2.2.1 (HIN.out wx hb).2.2.2)
    rw [hra] at HAI
    rw [hrb] at HAT
    rw [hrf] at HFT
    have HE : Hid (traE C I T t = if ra = true ∧ rb = true ∧ rf = true then 0 else 4) := Lib.hid (by unfold traE; rw [if_neg (by simp [hz]), hnI, hnL, hra, hrb, hrf])
    have HTO : Hid (∀ wx, Below W1.heap.size W1 wx → ra = true → rb = true → rf = true → Calls Try.prog 39 #[V.val C.max, .agg (cutCells X mx lv iv tv), U.val t.loop] wx fun e w' => Below wx.heap.size wx w' ∧ ∃ U' : TV, e = .returned (U'.val t.loop) ∧ OwnT w' wx.heap.size (backT C I T t) U') := Lib.hid (fun wx hb e1 e2 e3 => by
      obtain ⟨f1, f2, f3⟩ := fitC_parts (hrf.trans e3)
      exact traceOf_any wx V C X mx lv iv tv I T U t (HIN.out wx hb).1 hrt (HIN.out wx hb).2.1 (HIN.out wx hb).2.2.1 (HIN.out wx hb).2.2.2 f2 (fun p hp => by have := riseB_rng (hrb.trans e2) p hp; rw [hnL]; omega) f1.symm (fun p hp => by have := riseB_rng (hra.trans e1) p hp; rw [hnI]; omega) f3)
    have HW1 := Lib.hid hW1
    have HC1 := Lib.hid (HALL.out W1 (Below.refl _ _))
    obtain ⟨lp, hlp⟩ : ∃ l, t.loop = l := ⟨_, rfl⟩
    have HLP := Lib.hid hlp
    rw [hlp] at HALL HCE HFT HTO HW1 HC1 ⊢
    obtain ⟨mc, hmc⟩ : ∃ m, C.max = m := ⟨_, rfl⟩
    rw [hmc] at HCK HTO HW1 HC1 HALL ⊢
    clear h ok hi ht hu hck hck2 hz hrt hW1 hnI hnL hra hrb hrf eL eI hlp hmc hb1
    dsimp only [TV.val, TV.cells, CV.val, CV.cells, cutCells] at HFT HTO HCK HW1 HC1 HALL ⊢
    go_enter Try.func17, Try.ntmps17
    go_upto_region 1 with (fail)
    rw [HW1.out]
    go_upto_region 2 with (first
      | (refine wpList_load_row rfl 29 (.tmp 3) rfl w.heap.size rfl 29 #[.int .i64 mc, V.i, V.l, V.o, V.b, V.c, V.j, V.f, V.a, V.s, V.t] (0, 0) _ HC1.out.1 Try.underlying29 rfl (by kernel_rfl) ?_)
      | (go_at_call 36; refine HCK.out.mono ?_; rintro e w2 ⟨rfl, hb2⟩; have HB2 := Lib.hid hb2; clear hb2))
    have HC2 := Lib.hid (HCE.out w2 HB2.out)
    obtain ⟨b1, b2⟩ := HC2.out.1
    obtain ⟨c0, c1, c2, c3, c4, c5, c6, c7, c8, c9, c10, c11, c12, c13⟩ := HC2.out.2.1
    cases ra with
    | false =>
      have HE4 : Hid (traE C I T t = 4 ∧ traR C I T t = ⟨[], [], 0⟩) := Lib.hid (by
        have h4 : traE C I T t = 4 := by rw [HE.out]; rfl
        exact ⟨h4, traR_no (by rw [h4]; decide)⟩)
      go_upto_region 5 with (go_at_call_of 37 iv; refine (HAI.out w2 HB2.out).mono ?_; rintro e w3 ⟨rfl, hb3⟩; have HB3 := Lib.hid (bt HB2.out (Nat.le_refl _) hb3); have HC3 := Lib.hid (HCE.out w3 HB3.out); clear hb3 b1 b2 c0 c1 c2 c3 c4 c5 c6 c7 c8 c9 c10 c11 c12 c13; obtain ⟨b1, b2⟩ := HC3.out.1; obtain ⟨c0, c1, c2, c3, c4, c5, c6, c7, c8, c9, c10, c11, c12, c13⟩ := HC3.out.2.1; obtain ⟨d0, d1, d2⟩ := HC3.out.2.2)
      have HRS := Lib.hid (HALL.out w3 HB3.out).2.2.2
      go_wp2_with (refine wpList_store_row rfl 49 (.tmp 6) (.tmp 41) rfl (w.heap.size + 1 + 1 + 1) #[.slice none 0 0, .slice none 0 0, .int .i64 0] rfl rfl 49 _ HRS.out.1 (by kernel_rfl) rfl (by simp [Value.oneCell']) ?_)
      have hw9 : Blk (w3.setRow (w.heap.size + 1 + 1 + 1) #[.slice none 0 0, .slice none 0 0, .int .i64 0]) (w.heap.size + 1 + 1 + 1) 49 #[.slice none 0 0, .slice none 0 0, .int .i64 0] := setRow_heap w3 _ _ _ _ _ HRS.out.1
      refine bodyPost_ret (results_cell_one (fn := Try.f17) (p := 6) (q := 7) rfl _ _ (w.heap.size + 1 + 1 + 1) 49 #[.slice none 0 0, .slice none 0 0, .int .i64 0] (0, 0) _ rfl hw9 Try.underlying49 rfl (by kernel_rfl) (.int .i64 4) rfl) rfl ?_
      have hbel := HRS.out.2
      refine ⟨⟨hbel.os, hbel.tape, hbel.output, by rw [size_setRow]; exact hbel.size, fun k hk => (setRow_other _ _ _ _ (by omega)).trans (hbel.block k hk)⟩, ⟨.slice none 0 0, .slice none 0 0⟩, ?_, ?_⟩
      · rw [HE4.out.1, HE4.out.2]
      · rw [HE4.out.2]
        exact noT_own _ _
    | true =>
      cases rb with
      | false =>
        have HE4 : Hid (traE C I T t = 4 ∧ traR C I T t = ⟨[], [], 0⟩) := Lib.hid (by
          have h4 : traE C I T t = 4 := by rw [HE.out]; rfl
          exact ⟨h4, traR_no (by rw [h4]; decide)⟩)
        go_upto_region 5 with (first | (go_at_call_of 37 iv; refine (HAI.out w2 HB2.out).mono ?_; rintro e w3 ⟨rfl, hb3⟩; have HB3 := Lib.hid (bt HB2.out (Nat.le_refl _) hb3); have HC3 := Lib.hid (HCE.out w3 HB3.out); clear hb3 b1 b2 c0 c1 c2 c3 c4 c5 c6 c7 c8 c9 c10 c11 c12 c13; obtain ⟨b1, b2⟩ := HC3.out.1; obtain ⟨c0, c1, c2, c3, c4, c5, c6, c7, c8, c9, c10, c11, c12, c13⟩ := HC3.out.2.1; obtain ⟨d0, d1, d2⟩ := HC3.out.2.2) | (go_at_call_of 37 tv; refine (HAT.out w3 HB3.out).mono ?_; rintro e w4 ⟨rfl, hb4⟩; have HB4 := Lib.hid (bt HB3.out (Nat.le_refl _) hb4); have HC4 := Lib.hid (HCE.out w4 HB4.out); clear hb4 b1 b2 d0 d1 d2 c0 c1 c2 c3 c4 c5 c6 c7 c8 c9 c10 c11 c12 c13; obtain ⟨b1, b2⟩ := HC4.out.1; obtain ⟨c0, c1, c2, c3, c4, c5, c6, c7, c8, c9, c10, c11, c12, c13⟩ := HC4.out.2.1; obtain ⟨d0, d1, d2⟩ := HC4.out.2.2))
        have HRS := Lib.hid (HALL.out w4 HB4.out).2.2.2
        go_wp2_with (refine wpList_store_row rfl 49 (.tmp 6) (.tmp 41) rfl (w.heap.size + 1 + 1 + 1) #[.slice none 0 0, .slice none 0 0, .int .i64 0] rfl rfl 49 _ HRS.out.1 (by kernel_rfl) rfl (by simp [Value.oneCell']) ?_)
        have hw9 : Blk (w4.setRow (w.heap.size + 1 + 1 + 1) #[.slice none 0 0, .slice none 0 0, .int .i64 0]) (w.heap.size + 1 + 1 + 1) 49 #[.slice none 0 0, .slice none 0 0, .int .i64 0] := setRow_heap w4 _ _ _ _ _ HRS.out.1
        refine bodyPost_ret (results_cell_one (fn := Try.f17) (p := 6) (q := 7) rfl _ _ (w.heap.size + 1 + 1 + 1) 49 #[.slice none 0 0, .slice none 0 0, .int .i64 0] (0, 0) _ rfl hw9 Try.underlying49 rfl (by kernel_rfl) (.int .i64 4) rfl) rfl ?_
        have hbel := HRS.out.2
        refine ⟨⟨hbel.os, hbel.tape, hbel.output, by rw [size_setRow]; exact hbel.size, fun k hk => (setRow_other _ _ _ _ (by omega)).trans (hbel.block k hk)⟩, ⟨.slice none 0 0, .slice none 0 0⟩, ?_, ?_⟩
        · rw [HE4.out.1, HE4.out.2]
        · rw [HE4.out.2]
          exact noT_own _ _
      | true =>
        cases rf with
        | false =>
          have HE4 : Hid (traE C I T t = 4 ∧ traR C I T t = ⟨[], [], 0⟩) := Lib.hid (by
            have h4 : traE C I T t = 4 := by rw [HE.out]; rfl
            exact ⟨h4, traR_no (by rw [h4]; decide)⟩)
          go_upto_region 5 with (first | (go_at_call_of 37 iv; refine (HAI.out w2 HB2.out).mono ?_; rintro e w3 ⟨rfl, hb3⟩; have HB3 := Lib.hid (bt HB2.out (Nat.le_refl _) hb3); have HC3 := Lib.hid (HCE.out w3 HB3.out); clear hb3 b1 b2 c0 c1 c2 c3 c4 c5 c6 c7 c8 c9 c10 c11 c12 c13; obtain ⟨b1, b2⟩ := HC3.out.1; obtain ⟨c0, c1, c2, c3, c4, c5, c6, c7, c8, c9, c10, c11, c12, c13⟩ := HC3.out.2.1; obtain ⟨d0, d1, d2⟩ := HC3.out.2.2) | (go_at_call_of 37 tv; refine (HAT.out w3 HB3.out).mono ?_; rintro e w4 ⟨rfl, hb4⟩; have HB4 := Lib.hid (bt HB3.out (Nat.le_refl _) hb4); have HC4 := Lib.hid (HCE.out w4 HB4.out); clear hb4 b1 b2 d0 d1 d2 c0 c1 c2 c3 c4 c5 c6 c7 c8 c9 c10 c11 c12 c13; obtain ⟨b1, b2⟩ := HC4.out.1; obtain ⟨c0, c1, c2, c3, c4, c5, c6, c7, c8, c9, c10, c11, c12, c13⟩ := HC4.out.2.1; obtain ⟨d0, d1, d2⟩ := HC4.out.2.2) | (go_at_call 38; refine (HFT.out w4 HB4.out).mono ?_; rintro e w5 ⟨rfl, hb5⟩; have HB5 := Lib.hid (bt HB4.out (Nat.le_refl _) hb5); clear hb5))
          have HRS := Lib.hid (HALL.out w5 HB5.out).2.2.2
          go_wp2_with (refine wpList_store_row rfl 49 (.tmp 6) (.tmp 41) rfl (w.heap.size + 1 + 1 + 1) #[.slice none 0 0, .slice none 0 0, .int .i64 0] rfl rfl 49 _ HRS.out.1 (by kernel_rfl) rfl (by simp [Value.oneCell']) ?_)
          have hw9 : Blk (w5.setRow (w.heap.size + 1 + 1 + 1) #[.slice none 0 0, .slice none 0 0, .int .i64 0]) (w.heap.size + 1 + 1 + 1) 49 #[.slice none 0 0, .slice none 0 0, .int .i64 0] := setRow_heap w5 _ _ _ _ _ HRS.out.1
          refine bodyPost_ret (results_cell_one (fn := Try.f17) (p := 6) (q := 7) rfl _ _ (w.heap.size + 1 + 1 + 1) 49 #[.slice none 0 0, .slice none 0 0, .int .i64 0] (0, 0) _ rfl hw9 Try.underlying49 rfl (by kernel_rfl) (.int .i64 4) rfl) rfl ?_
          have hbel := HRS.out.2
          refine ⟨⟨hbel.os, hbel.tape, hbel.output, by rw [size_setRow]; exact hbel.size, fun k hk => (setRow_other _ _ _ _ (by omega)).trans (hbel.block k hk)⟩, ⟨.slice none 0 0, .slice none 0 0⟩, ?_, ?_⟩
          · rw [HE4.out.1, HE4.out.2]
          · rw [HE4.out.2]
            exact noT_own _ _
        | true =>
          have HE0 : Hid (traE C I T t = 0 ∧ traR C I T t = backT C I T t) := Lib.hid (by
            have h4 : traE C I T t = 0 := by rw [HE.out]; rfl
            exact ⟨h4, by unfold traR; rw [if_pos h4]⟩)
          go_upto_region 6 with (first | (go_at_call_of 37 iv; refine (HAI.out w2 HB2.out).mono ?_; rintro e w3 ⟨rfl, hb3⟩; have HB3 := Lib.hid (bt HB2.out (Nat.le_refl _) hb3); have HC3 := Lib.hid (HCE.out w3 HB3.out); clear hb3 b1 b2 c0 c1 c2 c3 c4 c5 c6 c7 c8 c9 c10 c11 c12 c13; obtain ⟨b1, b2⟩ := HC3.out.1; obtain ⟨c0, c1, c2, c3, c4, c5, c6, c7, c8, c9, c10, c11, c12, c13⟩ := HC3.out.2.1; obtain ⟨d0, d1, d2⟩ := HC3.out.2.2) | (go_at_call_of 37 tv; refine (HAT.out w3 HB3.out).mono ?_; rintro e w4 ⟨rfl, hb4⟩; have HB4 := Lib.hid (bt HB3.out (Nat.le_refl _) hb4); have HC4 := Lib.hid (HCE.out w4 HB4.out); clear hb4 b1 b2 d0 d1 d2 c0 c1 c2 c3 c4 c5 c6 c7 c8 c9 c10 c11 c12 c13; obtain ⟨b1, b2⟩ := HC4.out.1; obtain ⟨c0, c1, c2, c3, c4, c5, c6, c7, c8, c9, c10, c11, c12, c13⟩ := HC4.out.2.1; obtain ⟨d0, d1, d2⟩ := HC4.out.2.2) | (go_at_call 38; refine (HFT.out w4 HB4.out).mono ?_; rintro e w5 ⟨rfl, hb5⟩; have HB5 := Lib.hid (bt HB4.out (Nat.le_refl _) hb5); clear hb5))
          have HC5 := Lib.hid (HALL.out w5 HB5.out)
          clear b1 b2 d0 d1 d2 c0 c1 c2 c3 c4 c5 c6 c7 c8 c9 c10 c11 c12 c13
          go_wp2_with (first
            | (refine wpList_load_row rfl 29 (.tmp 3) rfl w.heap.size rfl 29 #[.int .i64 mc, V.i, V.l, V.o, V.b, V.c, V.j, V.f, V.a, V.s, V.t] (0, 0) _ HC5.out.1 Try.underlying29 rfl (by kernel_rfl) ?_)
            | (refine wpList_load_row rfl 34 (.tmp 4) rfl (w.heap.size + 1) rfl 34 #[.int .i64 mx, X.i, X.l, X.o, X.b, X.c, X.j, X.f, X.a, X.s, X.t, lv, iv, tv] (0, 0) _ HC5.out.2.1 Try.underlying34 rfl (by kernel_rfl) ?_)
            | (refine wpList_load_row rfl 49 (.tmp 5) rfl (w.heap.size + 1 + 1) rfl 49 #[U.i, U.r, .int .i64 lp] (0, 0) _ HC5.out.2.2.1 Try.underlying49 rfl (by kernel_rfl) ?_)
            | (go_at_call 39; go_loud (refine (HTO.out w5 HB5.out (by first | rfl | trivial) (by first | rfl | trivial) (by first | rfl | trivial)).mono ?_; rintro e w6 ⟨hb6, U', rfl, hown⟩; have HB6 := Lib.hid hb6; have HOWN := Lib.hid hown; have HRS := Lib.hid (HALL.out w6 (bt HB5.out (Nat.le_refl _) hb6)).2.2.2; have HONE : Hid ((#[U'.i, U'.r, .int .i64 lp] : Array Value).all (·.oneCell') = true) := Lib.hid (own_oneT hown lp); clear hb6 hown))
            | (refine wpList_store_row rfl 49 (.tmp 6) (.tmp 45) rfl (w.heap.size + 1 + 1 + 1) #[U'.i, U'.r, .int .i64 lp] rfl rfl 49 _ HRS.out.1 (by kernel_rfl) rfl HONE.out ?_))
          have hw9 : Blk (w6.setRow (w.heap.size + 1 + 1 + 1) #[U'.i, U'.r, .int .i64 lp]) (w.heap.size + 1 + 1 + 1) 49 #[U'.i, U'.r, .int .i64 lp] := setRow_heap w6 _ _ _ _ _ HRS.out.1
          refine bodyPost_ret (results_cell_one (fn := Try.f17) (p := 6) (q := 7) rfl _ _ (w.heap.size + 1 + 1 + 1) 49 #[U'.i, U'.r, .int .i64 lp] (0, 0) _ rfl hw9 Try.underlying49 rfl (by kernel_rfl) (.int .i64 0) rfl) rfl ?_
          have hbel := HRS.out.2
          have hs1 := HS1.out
          have hs5 := HB5.out.size
          refine ⟨⟨hbel.os, hbel.tape, hbel.output, by rw [size_setRow]; exact hbel.size, fun k hk => (setRow_other _ _ _ _ (by omega)).trans (hbel.block k hk)⟩, U', ?_, ?_⟩
          · rw [HE0.out.1, HE0.out.2]
            show Ending.returned (Value.tuple #[U'.val lp, _]) = Ending.returned (Value.tuple #[U'.val t.loop, _])
            rw [HLP.out]
          · rw [HE0.out.2]
            exact (HOWN.out.out_ fun k h1 h2 => setRow_other _ _ _ _ (by omega)).le (by omega)
  · obtain ⟨a, r, hr⟩ : ∃ a r, checkR C = (a, r) := ⟨_, _, rfl⟩
    have HEr : Hid (traE C I T t = r ∧ traR C I T t = ⟨[], [], 0⟩) := Lib.hid (by
      have h4 : traE C I T t = r := by unfold traE; rw [if_pos hz, hr]
      exact ⟨h4, traR_no (by rw [h4]; rw [hr] at hz; exact hz)⟩)
    rw [hr] at hck hz
    have hq : (r != 0) = true := by simpa using hz
    have HCK := Lib.hid hck
    have HW1 := Lib.hid hW1
    have HC1 := Lib.hid (HALL.out W1 (Below.refl _ _))
    clear h ok hi ht hu hck hr hz hW1 hb1
    dsimp only [TV.val, TV.cells, CV.val, CV.cells, cutCells] at HCK HW1 HC1 HALL ⊢
    go_enter Try.func17, Try.ntmps17
    go_upto_region 1 with (fail)
    rw [HW1.out]
    go_upto_region 3 with (first
      | (refine wpList_load_row rfl 29 (.tmp 3) rfl w.heap.size rfl 29 #[.int .i64 C.max, V.i, V.l, V.o, V.b, V.c, V.j, V.f, V.a, V.s, V.t] (0, 0) _ HC1.out.1 Try.underlying29 rfl (by kernel_rfl) ?_)
      | (go_at_call 36; refine HCK.out.mono ?_; rintro e w2 ⟨rfl, hb2⟩; have HB2 := Lib.hid hb2; clear hb2))
    have HRS := Lib.hid (HALL.out w2 HB2.out).2.2.2
    go_wp2_with (refine wpList_store_row rfl 49 (.tmp 6) (.tmp 17) rfl (w.heap.size + 1 + 1 + 1) #[.slice none 0 0, .slice none 0 0, .int .i64 0] rfl rfl 49 _ HRS.out.1 (by kernel_rfl) rfl (by simp [Value.oneCell']) ?_)
    have hw9 : Blk (w2.setRow (w.heap.size + 1 + 1 + 1) #[.slice none 0 0, .slice none 0 0, .int .i64 0]) (w.heap.size + 1 + 1 + 1) 49 #[.slice none 0 0, .slice none 0 0, .int .i64 0] := setRow_heap w2 _ _ _ _ _ HRS.out.1
    refine bodyPost_ret (results_cell_one (fn := Try.f17) (p := 6) (q := 7) rfl _ _ (w.heap.size + 1 + 1 + 1) 49 #[.slice none 0 0, .slice none 0 0, .int .i64 0] (0, 0) _ rfl hw9 Try.underlying49 rfl (by kernel_rfl) (.int .i64 r) rfl) rfl ?_
    have hbel := HRS.out.2
    refine ⟨⟨hbel.os, hbel.tape, hbel.output, by rw [size_setRow]; exact hbel.size, fun k hk => (setRow_other _ _ _ _ (by omega)).trans (hbel.block k hk)⟩, ⟨.slice none 0 0, .slice none 0 0⟩, ?_, ?_⟩
    · rw [HEr.out.1, HEr.out.2]
    · rw [HEr.out.2]
      exact noT_own _ _
end Go.Proofs.Ytagffmalmkcboaa

/- The end of Renumber: what memory holds when all has been written, and what is handed out. -/
import Derived.Test.YtdladffjenfikaaRenB
namespace Go.Proofs.Ytdladffjenfikaa
open Go.RowKit

def mvL (M : List Int) (z : Tri) : Tri := (mvF M z.1, mvF M z.2.1, mvF M z.2.2)
theorem flat3_get : ∀ (LL : List Tri) (i j : Nat), j < 3 → (LL.flatMap encT)[i * 3 + j]? = (LL[i]?).bind (fun z => (encT z)[j]?)
  | [], i, j, _ => by simp
  | z :: r, 0, j, hj => by
    rw [List.flatMap_cons, List.getElem?_append_left (by simp; omega)]
    simp
  | z :: r, i + 1, j, hj => by
    rw [List.flatMap_cons, List.getElem?_append_right (by simp; omega), show (i + 1) * 3 + j - (encT z).length = i * 3 + j by simp; omega, flat3_get r i j hj]
    simp
theorem flat3_set (LL : List Tri) (q : Nat) (z : Tri) : (((LL.flatMap encT).set (q * 3) (.int .i64 z.1)).set (q * 3 + 1) (.int .i64 z.2.1)).set (q * 3 + 2) (.int .i64 z.2.2) = (LL.set q z).flatMap encT := by
  have hlen : ∀ (L : List Tri), (L.flatMap encT).length = L.length * 3 := fun L => flat_len lenT L
  apply List.ext_getElem?
  intro k
  obtain ⟨i, j, hj, rfl⟩ : ∃ i j, j < 3 ∧ k = i * 3 + j := ⟨k / 3, k % 3, by omega, by omega⟩
  rw [flat3_get _ i j hj]
  simp only [List.getElem?_set, List.length_set, hlen]
  by_cases hi : i = q
  · subst hi
    by_cases hl : i < LL.length
    · have h3 : j = 0 ∨ j = 1 ∨ j = 2 := by omega
      rcases h3 with rfl | rfl | rfl
      · rw [if_neg (by omega), if_neg (by omega), if_pos (by omega), if_pos (by omega)]
        simp [hl]
      · rw [if_neg (by omega), if_pos (by omega), if_pos (by omega)]
        simp [hl]
      · rw [if_pos (by omega), if_pos (by omega)]
        simp [hl]
    · have h3 : j = 0 ∨ j = 1 ∨ j = 2 := by omega
      rcases h3 with rfl | rfl | rfl
      · rw [if_neg (by omega), if_neg (by omega), if_pos (by omega), if_neg (by omega)]
        simp [hl]
      · rw [if_neg (by omega), if_pos (by omega), if_neg (by omega)]
        simp [hl]
      · rw [if_pos (by omega), if_neg (by omega)]
        simp [hl]
  · rw [if_neg (by omega), if_neg (by omega), if_neg (by omega), flat3_get _ i j hj, if_neg (by omega)]
/-- A row of things of three cells: its cells, and what three stores make of it. -/
theorem own_cells3 {w : World} {B : Nat} {t : TypeId} {v : Value} {LL : List Tri} (h : w.ownsRow B t 3 v LL.length (LL.flatMap encT)) (hn : 0 < LL.length) :
    ∃ g cap, v = .slice (some ⟨g, 0, none⟩) LL.length cap ∧ B ≤ g ∧ g < w.heap.size ∧ (∃ cs, Blk w g t cs) ∧ (∀ q z, LL[q]? = some z → w.cell? ⟨g, q * 3, none⟩ = some (.int .i64 z.1) ∧ w.cell? ⟨g, q * 3 + 1, none⟩ = some (.int .i64 z.2.1) ∧ w.cell? ⟨g, q * 3 + 2, none⟩ = some (.int .i64 z.2.2)) ∧ (∀ k, w.frozen? ⟨g, k, none⟩ = false) ∧
      (∀ q, q < LL.length → ∀ z : Tri, (((w.setCell ⟨g, q * 3, none⟩ (.int .i64 z.1)).setCell ⟨g, q * 3 + 1, none⟩ (.int .i64 z.2.1)).setCell ⟨g, q * 3 + 2, none⟩ (.int .i64 z.2.2)).ownsRow B t 3 v LL.length ((LL.set q z).flatMap encT)) := by
  rcases h.2 with ⟨hv0, _⟩ | ⟨g, cap, cur, rfl, hB, hb, h1, h2, h3, h4⟩
  · have hl := h.1
    subst hv0
    rcases h.2 with ⟨_, hx⟩ | ⟨_, _, _, hv, _⟩
    · rw [hx] at hl; simp at hl; omega
    · cases hv
  have hb' : Blk w g t cur := hb
  have hlen : (LL.flatMap encT).length = LL.length * 3 := flat_len lenT LL
  refine ⟨g, cap, rfl, hB, hb'.lt, ⟨_, hb'⟩, fun q z hz => ?_, fun k => hb'.frozen k, fun q hq z => ?_⟩
  · have hq : q < LL.length := (List.getElem?_eq_some_iff.1 hz).1
    have hc : ∀ j, j < 3 → w.cell? ⟨g, q * 3 + j, none⟩ = (encT z)[j]? := fun j hj => by
      rw [hb'.cell]
      have e := flat3_get LL q j hj
      rw [hz, ← h4, List.getElem?_take, if_pos (by omega), Array.getElem?_toList] at e
      exact e
    exact ⟨hc 0 (by omega), hc 1 (by omega), hc 2 (by omega)⟩
  · have s1 := Blk.set_ hb' (q * 3) (.int .i64 z.1)
    have s2 := Blk.set_ s1 (q * 3 + 1) (.int .i64 z.2.1)
    have s3 := Blk.set_ s2 (q * 3 + 2) (.int .i64 z.2.2)
    refine ⟨by rw [flat_len lenT, List.length_set], .inr ⟨g, cap, _, rfl, hB, s3, h1, h2, by simpa using h3, ?_⟩⟩
    rw [← flat3_set, ← h4]
    simp only [Array.toList_setIfInBounds, List.take_set]
theorem set_seq {α : Type} {f : α → α} {l : List α} {q : Nat} {x : α} (hx : l[q]? = some x) : ((l.take q).map f ++ l.drop q).set q (f x) = (l.take (q + 1)).map f ++ l.drop (q + 1) := by
  have hq : q < l.length := (List.getElem?_eq_some_iff.1 hx).1
  rw [drop_one hx]
  have := set_midR ((l.take q).map f) x (f x) (l.drop (q + 1))
  rw [List.length_map, List.length_take, Nat.min_eq_left (by omega)] at this
  rw [this, List.take_add_one, hx]
  simp
theorem set_seq2 {α β : Type} {f : β → α} {o : List β} {L : List α} {q : Nat} {g : β} (hg : o[q]? = some g) (hq : q < L.length) : ((o.take q).map f ++ L.drop q).set q (f g) = (o.take (q + 1)).map f ++ L.drop (q + 1) := by
  have hqo : q < o.length := (List.getElem?_eq_some_iff.1 hg).1
  rw [List.drop_eq_getElem_cons hq]
  have := set_midR ((o.take q).map f) L[q] (f g) (L.drop (q + 1))
  rw [List.length_map, List.length_take, Nat.min_eq_left (by omega)] at this
  rw [this, List.take_add_one, hg]
  simp
theorem step_load_row {P : Program} {ops : Array Oper} {o : Oper} {a : Act} {w : World} {K : Act → World → Prop} {Q : Exit → Act → World → Prop} {E : Prop} (hgd : o.guard = none) (ty : TypeId) (x : Operand) (ho : o.op = .load ty x)
    (g : Nat) (hx : a.eval x = .pointer (some ⟨g, 0, none⟩)) (t : TypeId) (cs : Array Value) (fr : Nat × Nat) (d : TypeDesc) (hg : w.heap[g]? = some (.cells cs t fr))
    (hu : P.underlying ty = some d) (hd : (match d with | .struct _ | .array _ _ => true | _ => false) = true) (hi : (P.info? ty).map (·.size) = some cs.size)
    (h : K (a.put o.dst (.agg cs)) w) : if Region.wanted o (yielded ops a.tmps) = true then Oper.wp P o a w K Q else E := by
  rw [if_pos (by simp [Region.wanted, hgd])]
  exact wp_load_row ty x ho g hx t cs fr d hg hu hd hi h
theorem step_store_row {P : Program} {ops : Array Oper} {o : Oper} {a : Act} {w : World} {K : Act → World → Prop} {Q : Exit → Act → World → Prop} {E : Prop} (hgd : o.guard = none) (ty : TypeId) (x y : Operand) (ho : o.op = .store ty x y)
    (g : Nat) (cells : Array Value) (hx : a.eval x = .pointer (some ⟨g, 0, none⟩)) (hy : a.eval y = .agg cells)
    (t : TypeId) (old : Array Value) (hg : w.heap[g]? = some (.cells old t (0, 0))) (hi : (P.info? ty).map (·.size) = some cells.size)
    (hold : old.size = cells.size) (h1 : cells.all (·.oneCell') = true)
    (h : K (a.put o.dst undef) (w.setRow g cells)) : if Region.wanted o (yielded ops a.tmps) = true then Oper.wp P o a w K Q else E := by
  rw [if_pos (by simp [Region.wanted, hgd])]
  exact wp_store_row ty x y ho g cells hx hy t old hg hi hold h1 h
theorem mvL_step (M : List Int) {l : List Tri} {q : Nat} {x : Tri} (hx : l[q]? = some x) : ((l.take q).map (mvL M) ++ l.drop q).set q (mvL M x) = (l.take (q + 1)).map (mvL M) ++ l.drop (q + 1) := set_seq hx
section
variable {w2 X wx : World} {bo : Nat} {OUT : Array Value} {gm n : Nat} {M : List Int} {V : CV} {us : List Value} {C : Circ} {v6 : Value} {LV : List Value} {R : List (Value × List Int)}
theorem RnL.alloc (h : RnL w2 X wx bo OUT gm n M V us C v6 LV R) (o : Obj) : RnL w2 X (wx.alloc o) bo OUT gm n M V us C v6 LV R := by
  have hk : ∀ {t : TypeId} {k' n B : Nat} {v : Value} {xs : List Value}, wx.ownsRow B t k' v n xs → (wx.alloc o).ownsRow B t k' v n xs := fun ho => ho.alloc o
  exact ⟨h.below.trans ⟨rfl, rfl, rfl, by simp, fun k hk => by
    rcases Nat.lt_or_ge k wx.heap.size with hlt | hge
    · exact Below.heap_alloc _ _ _ hlt
    · have := Blk.lt h.bm
      omega⟩, ⟨fun p hp => hk (h.fam.own p hp), h.fam.apart⟩, hk h.lv, h.box.alloc o, h.bm.alloc o, Blk.alloc h.nums o, h.gml, hk h.j, hk h.l, hk h.a, hk h.s, hk h.t⟩
theorem RnL.drew (h : RnL w2 X wx bo OUT gm n M V us C v6 LV R) : RnL w2 X wx.drew bo OUT gm n M V us C v6 LV R :=
  ⟨h.below.drew, ⟨fun p hp => own_of_block (h.fam.own p hp) fun _ _ => rfl, h.fam.apart⟩, own_of_block h.lv fun _ _ => rfl, h.box, h.bm, h.nums, h.gml, own_of_block h.j fun _ _ => rfl, own_of_block h.l fun _ _ => rfl, own_of_block h.a fun _ _ => rfl, own_of_block h.s fun _ _ => rfl, own_of_block h.t fun _ _ => rfl⟩
/-- A latch is written. -/
theorem RnL.setL (h : RnL w2 X wx bo OUT gm n M V us C v6 LV R) {q g cap N : Nat} (hq : q < C.latches.length) (hV : V.l = .slice (some ⟨g, 0, none⟩) N cap) (z z' : Tri) (_hz : C.latches[q]? = some z) :
    RnL w2 X (((wx.setCell ⟨g, q * 3, none⟩ (.int .i64 z'.1)).setCell ⟨g, q * 3 + 1, none⟩ (.int .i64 z'.2.1)).setCell ⟨g, q * 3 + 2, none⟩ (.int .i64 z'.2.2)) bo OUT gm n M V us { C with latches := C.latches.set q z' } v6 LV R := by
  obtain ⟨g', cap', hv, hB, _, ⟨cs, hblk⟩, _, _, hset⟩ := own_cells3 h.l (by omega)
  rw [hV] at hv
  injection hv with e1 e2 e3
  injection e1 with e1
  injection e1 with e1
  subst e1
  have hoth : ∀ k, k ≠ g → (((wx.setCell ⟨g, q * 3, none⟩ (.int .i64 z'.1)).setCell ⟨g, q * 3 + 1, none⟩ (.int .i64 z'.2.1)).setCell ⟨g, q * 3 + 2, none⟩ (.int .i64 z'.2.2)).heap[k]? = wx.heap[k]? := fun k hk =>
    (Below.heap_setCell _ _ _ _ hk).trans ((Below.heap_setCell _ _ _ _ hk).trans (Below.heap_setCell _ _ _ _ hk))
  have hk2 : ∀ {t : TypeId} {k' n B : Nat} {v : Value} {xs : List Value}, wx.ownsRow B t k' v n xs → t ≠ 61 → (((wx.setCell ⟨g, q * 3, none⟩ (.int .i64 z'.1)).setCell ⟨g, q * 3 + 1, none⟩ (.int .i64 z'.2.1)).setCell ⟨g, q * 3 + 2, none⟩ (.int .i64 z'.2.2)).ownsRow B t k' v n xs := fun ho ht =>
    own_of_block ho fun g2 hg2 => hoth _ (fun e => own_blk_ne ho hblk ht (by rw [hg2, e]))
  have hb2 : ∀ {b : Nat} {t : TypeId} {cs' : Array Value}, Blk wx b t cs' → t ≠ 61 → Blk (((wx.setCell ⟨g, q * 3, none⟩ (.int .i64 z'.1)).setCell ⟨g, q * 3 + 1, none⟩ (.int .i64 z'.2.1)).setCell ⟨g, q * 3 + 2, none⟩ (.int .i64 z'.2.2)) b t cs' := fun hb ht => (hoth _ (fun e => hb.ne_ hblk ht e)).trans hb
  refine ⟨((h.below.setCell hB _).setCell hB _).setCell hB _, ⟨fun p hp => hk2 (h.fam.own p hp) (by decide), h.fam.apart⟩, hk2 h.lv (by decide), hb2 h.box (by decide), hb2 h.bm (by decide), hb2 h.nums (by decide), h.gml, hk2 h.j (by decide), ?_, hk2 h.a (by decide), hk2 h.s (by decide), hk2 h.t (by decide)⟩
  have := hset q hq z'
  show World.ownsRow _ _ _ _ _ (C.latches.set q z').length ((C.latches.set q z').flatMap encT)
  rw [List.length_set]
  exact this
/-- A gate is written. -/
theorem RnL.setA (h : RnL w2 X wx bo OUT gm n M V us C v6 LV R) {q g cap N : Nat} (hq : q < C.ands.length) (hV : V.a = .slice (some ⟨g, 0, none⟩) N cap) (z z' : Tri) (_hz : C.ands[q]? = some z) :
    RnL w2 X (((wx.setCell ⟨g, q * 3, none⟩ (.int .i64 z'.1)).setCell ⟨g, q * 3 + 1, none⟩ (.int .i64 z'.2.1)).setCell ⟨g, q * 3 + 2, none⟩ (.int .i64 z'.2.2)) bo OUT gm n M V us { C with ands := C.ands.set q z' } v6 LV R := by
  obtain ⟨g', cap', hv, hB, _, ⟨cs, hblk⟩, _, _, hset⟩ := own_cells3 h.a (by omega)
  rw [hV] at hv
  injection hv with e1 e2 e3
  injection e1 with e1
  injection e1 with e1
  subst e1
  have hoth : ∀ k, k ≠ g → (((wx.setCell ⟨g, q * 3, none⟩ (.int .i64 z'.1)).setCell ⟨g, q * 3 + 1, none⟩ (.int .i64 z'.2.1)).setCell ⟨g, q * 3 + 2, none⟩ (.int .i64 z'.2.2)).heap[k]? = wx.heap[k]? := fun k hk =>
    (Below.heap_setCell _ _ _ _ hk).trans ((Below.heap_setCell _ _ _ _ hk).trans (Below.heap_setCell _ _ _ _ hk))
  have hk2 : ∀ {t : TypeId} {k' n B : Nat} {v : Value} {xs : List Value}, wx.ownsRow B t k' v n xs → t ≠ 64 → (((wx.setCell ⟨g, q * 3, none⟩ (.int .i64 z'.1)).setCell ⟨g, q * 3 + 1, none⟩ (.int .i64 z'.2.1)).setCell ⟨g, q * 3 + 2, none⟩ (.int .i64 z'.2.2)).ownsRow B t k' v n xs := fun ho ht =>
    own_of_block ho fun g2 hg2 => hoth _ (fun e => own_blk_ne ho hblk ht (by rw [hg2, e]))
  have hb2 : ∀ {b : Nat} {t : TypeId} {cs' : Array Value}, Blk wx b t cs' → t ≠ 64 → Blk (((wx.setCell ⟨g, q * 3, none⟩ (.int .i64 z'.1)).setCell ⟨g, q * 3 + 1, none⟩ (.int .i64 z'.2.1)).setCell ⟨g, q * 3 + 2, none⟩ (.int .i64 z'.2.2)) b t cs' := fun hb ht => (hoth _ (fun e => hb.ne_ hblk ht e)).trans hb
  refine ⟨((h.below.setCell hB _).setCell hB _).setCell hB _, ⟨fun p hp => hk2 (h.fam.own p hp) (by decide), h.fam.apart⟩, hk2 h.lv (by decide), hb2 h.box (by decide), hb2 h.bm (by decide), hb2 h.nums (by decide), h.gml, hk2 h.j (by decide), hk2 h.l (by decide), ?_, hk2 h.s (by decide), hk2 h.t (by decide)⟩
  have := hset q hq z'
  show World.ownsRow _ _ _ _ _ (C.ands.set q z').length ((C.ands.set q z').flatMap encT)
  rw [List.length_set]
  exact this
end
end Go.Proofs.Ytdladffjenfikaa

namespace Go.Proofs.Ytdladffjenfikaa
open Go.RowKit

/-- What a function hands out whose results are a cell of several cells and two slots. -/
theorem results_cell_two {fn : Func} {p q r : Tmp} {ty : TypeId} {P : Program} (h : fn.results = #[.cell p ty, .tmp q, .tmp r]) (tmps : Array Value) (w : World) (g : Nat) (t : TypeId) (cs : Array Value) (fr : Nat × Nat) (d : TypeDesc)
    (hp : tmps.getD p undef = .pointer (some ⟨g, 0, none⟩)) (hg : w.heap[g]? = some (.cells cs t fr))
    (hu : P.underlying ty = some d) (hd : (match d with | .struct _ | .array _ _ => true | _ => false) = true) (hi : (P.info? ty).map (·.size) = some cs.size) (v u : Value) (hv : tmps.getD q undef = v) (hu2 : tmps.getD r undef = u) :
    (results fn tmps).run P w = .ok (.tuple #[.agg cs, v, u]) w := by
  have hp' : tmps[p]?.getD undef = .pointer (some ⟨g, 0, none⟩) := by simpa using hp
  subst hv hu2
  have hl := run_loadVar_row w g t ty cs fr d hg hu (by cases d <;> first | rfl | exact hd) hi
  simp [results, h, hp', asAddr, hl]
theorem zip_mapR {us : List Value} {f : List Int → List Int} : ∀ {us : List Value} {J : List (List Int)}, us.zip (J.map f) = (us.zip J).map (fun p => (p.1, f p.2))
  | [], _ => by simp
  | _ :: _, [] => by simp
  | u :: r, z :: J => by simp [zip_mapR (us := us) (f := f) (J := J)]
theorem ren_cop {w2 X wr wf : World} {bo : Nat} {OUT : Array Value} {gm n : Nat} {M : List Int} {V : CV} {us : List Value} {C C1 : Circ} {v6 : Value} {LV : List Value} {R0 : List (Value × List Int)} {out : List Int} {B : Nat}
    (h : RnL w2 X wr bo OUT gm n M V us C1 v6 LV (R0.map (mvR M))) (hM : newM C out = M) (h1 : C1.latches = C.latches.map (mvL M)) (h2 : C1.ands = out.map (fun g => renAnd M (C.ands.getD g.toNat (0, 0, 0)))) (h3 : C1.symbols = C.symbols) (h4 : C1.comments = C.comments)
    (hR0 : R0 = us.zip C.justice ++ five V C) (hul : us.length = C.justice.length) (hB : B ≤ w2.heap.size) (hk : ∀ g, w2.heap.size ≤ g → wf.heap[g]? = wr.heap[g]?) : Cop wf B V us (renC C out) := by
  have keep : ∀ {t : TypeId} {k n : Nat} {v : Value} {xs : List Value}, wr.ownsRow w2.heap.size t k v n xs → wf.ownsRow B t k v n xs := fun ho =>
    own_base (own_of_block ho fun g hg => hk g (ho.lt g hg).1) hB
  have hfam : R0.map (mvR M) = us.zip (renC C out).justice ++ five V (renC C out) := by
    subst hR0
    rw [List.map_append]
    congr 1
    · show _ = us.zip (C.justice.map _)
      rw [hM, zip_mapR (us := us)]
      rfl
    · simp only [five, renC, hM, List.map_cons, List.map_nil, mvR]
  have hf := h.fam
  rw [hfam] at hf
  have hl := h.l
  have ha := h.a
  have hs := h.s
  have ht := h.t
  rw [h1] at hl
  rw [h2] at ha
  rw [h3] at hs
  rw [h4] at ht
  have hf2 := fam_comm hf
  refine ⟨⟨fun p hp => keep (hf2.own p hp), hf2.apart⟩, by simpa [renC] using hul, keep h.j, ?_, ?_, keep hs, keep ht⟩
  · have := keep hl
    rw [← hM] at this
    exact this
  · have := keep ha
    rw [← hM] at this
    exact this
theorem nums_own {w : World} {B g : Nat} {L : List Int} (h : Nums w g L) (hB : B ≤ g) (hm : L.length ≤ maxLen) : w.ownsRow B 3 1 (.slice (some ⟨g, 0, none⟩) L.length L.length) L.length (L.map (Value.int .i64)) :=
  ⟨by simp, .inr ⟨g, L.length, (L.map (Value.int .i64)).toArray, rfl, hB, h, Nat.le_refl _, hm, by simp, by simp [List.take_of_length_le]⟩⟩
end Go.Proofs.Ytdladffjenfikaa

/- The contract of Copy: a circuit of new lists, each in a block of its own. -/
import Derived.Test.YtdodhbfplglbkaaCopyR
import Derived.Laws.Tables
import Derived.Deep.RegionWith
namespace Go.Proofs.Ytdodhbfplglbkaa
open Go.RowKit

theorem build_circ (m : Int) (A0 : Option Addr) (n0 c0 : Nat) (A1 : Option Addr) (n1 c1 : Nat) (A2 : Option Addr) (n2 c2 : Nat) (A3 : Option Addr) (n3 c3 : Nat) (A4 : Option Addr) (n4 c4 : Nat) (A5 : Option Addr) (n5 c5 : Nat) (A6 : Option Addr) (n6 c6 : Nat) (A7 : Option Addr) (n7 c7 : Nat) (A8 : Option Addr) (n8 c8 : Nat) (A9 : Option Addr) (n9 c9 : Nat) (w : World) : (Instr.build 29 #[(0, .int .i64 m), (1, .slice A0 n0 c0), (2, .slice A1 n1 c1), (3, .slice A2 n2 c2), (4, .slice A3 n3 c3), (5, .slice A4 n4 c4), (6, .slice A5 n5 c5), (7, .slice A6 n6 c6), (8, .slice A7 n7 c7), (9, .slice A8 n8 c8), (10, .slice A9 n9 c9)]).run Try.prog w = .ok (.agg #[.int .i64 m, .slice A0 n0 c0, .slice A1 n1 c1, .slice A2 n2 c2, .slice A3 n3 c3, .slice A4 n4 c4, .slice A5 n5 c5, .slice A6 n6 c6, .slice A7 n7 c7, .slice A8 n8 c8, .slice A9 n9 c9]) w := by kernel_rfl
theorem flat_ints (zs : List Int) : zs.flatMap encI = zs.map (Value.int .i64) := by
  induction zs with
  | nil => rfl
  | cons z r ih => rw [List.flatMap_cons, ih]; rfl
theorem flat_vals (zs : List Value) : zs.flatMap encV = zs := by
  induction zs with
  | nil => rfl
  | cons z r ih => rw [List.flatMap_cons, ih]; rfl
/-- A row of values of the call's own: its cells, and what a store makes of it. -/
theorem own_cells_v {w : World} {B n : Nat} {t : TypeId} {v : Value} {xs : List Value} (h : w.ownsRow B t 1 v n xs) (hn : 0 < n) :
    ∃ g cap, v = .slice (some ⟨g, 0, none⟩) n cap ∧ B ≤ g ∧ g < w.heap.size ∧ n ≤ cap ∧ (∀ k u, xs[k]? = some u → w.cell? ⟨g, k, none⟩ = some u) ∧ (∀ k, w.frozen? ⟨g, k, none⟩ = false) ∧
      (∀ k, k < n → ∀ u : Value, (w.setCell ⟨g, k, none⟩ u).ownsRow B t 1 v n (xs.set k u)) := by
  rcases h.2 with ⟨_, h0⟩ | ⟨g, cap, cur, rfl, hB, hb, h1, h2, h3, h4⟩
  · omega
  have hb' : Blk w g t cur := hb
  refine ⟨g, cap, rfl, hB, hb'.lt, h1, fun k u hu => ?_, fun k => hb'.frozen k, fun k hk u => ?_⟩
  · rw [hb'.cell]
    have hk : k < n := by have := (List.getElem?_eq_some_iff.1 hu).1; rw [h.1] at this; omega
    rw [← h4, List.getElem?_take] at hu
    rw [if_pos (by omega), Array.getElem?_toList] at hu
    exact hu
  · refine ⟨by rw [List.length_set]; exact h.1, .inr ⟨g, cap, cur.setIfInBounds k u, rfl, hB, Blk.set_ hb' k _, h1, h2, by simpa using h3, ?_⟩⟩
    rw [Array.toList_setIfInBounds, ← h4]
    simp [List.take_set]
theorem Fam.snoc {w w' : World} {B : Nat} {R : List (Value × List Int)} {v : Value} {l : List Int} (h : Fam w B R) (hb : Below w.heap.size w w') (hB : B ≤ w.heap.size) (ho : w'.ownsRow w.heap.size 3 1 v l.length (l.map (Value.int .i64))) : Fam w' B (R ++ [(v, l)]) := by
  have hnew : ∀ (i : Nat) (a : Value × List Int), R[i]? = some a → Apart a (v, l) := fun i a hi g hg hg' => by
    have h1 := ((h.own a (List.mem_of_getElem? hi)).lt g hg).2
    have h2 := (ho.lt g hg').1
    omega
  have hget : ∀ (i : Nat) (a : Value × List Int), (R ++ [(v, l)])[i]? = some a → (R[i]? = some a ∧ i < R.length) ∨ (a = (v, l) ∧ i = R.length) := by
    intro i a hi
    by_cases hl : i < R.length
    · rw [List.getElem?_append_left hl] at hi
      exact .inl ⟨hi, hl⟩
    · have := (List.getElem?_eq_some_iff.1 hi).1
      simp at this
      have e : i = R.length := by omega
      subst e
      simp at hi
      exact .inr ⟨hi.symm, rfl⟩
  refine ⟨fun p hp => ?_, fun i j a b hij hi hj => ?_⟩
  · rcases List.mem_append.1 hp with hp | hp
    · exact own_below (h.own p hp) hb
    · simp only [List.mem_singleton] at hp
      subst hp
      exact own_base ho hB
  · rcases hget i a hi with ⟨h1, h2⟩ | ⟨rfl, e1⟩
    · rcases hget j b hj with ⟨h3, h4⟩ | ⟨rfl, e2⟩
      · exact h.apart i j a b hij h1 h3
      · exact hnew i a h1
    · rcases hget j b hj with ⟨h3, h4⟩ | ⟨rfl, e2⟩
      · exact (hnew j b h3).symm
      · exact absurd (e1.trans e2.symm) hij
abbrev five (V : CV) (C : Circ) : List (Value × List Int) := [(V.i, C.inputs), (V.o, C.outputs), (V.b, C.bads), (V.c, C.constraints), (V.f, C.fairness)]
/-- In the midst of the justice's own lists. -/
structure CpyL (w wx : World) (b : Nat) (V : CV) (C : Circ) (vs us : List Value) (q : Nat) : Prop where
  below : Below w.heap.size w wx
  box : Blk wx b 29 (V.cells C.max)
  res : Blk wx (w.heap.size + 1) 29 #[.int .i64 0, .slice none 0 0, .slice none 0 0, .slice none 0 0, .slice none 0 0, .slice none 0 0, .slice none 0 0, .slice none 0 0, .slice none 0 0, .slice none 0 0, .slice none 0 0]
  len : us.length = q
  fam : Fam wx w.heap.size (five V C ++ us.zip C.justice)
  j : wx.ownsRow w.heap.size 22 1 V.j vs.length (us ++ vs.drop q)
  l : wx.ownsRow w.heap.size 70 3 V.l C.latches.length (C.latches.flatMap encT)
  a : wx.ownsRow w.heap.size 68 3 V.a C.ands.length (C.ands.flatMap encT)
  s : wx.ownsRow w.heap.size 155 3 V.s C.symbols.length (C.symbols.flatMap encS)
  t : wx.ownsRow w.heap.size 9 1 V.t C.comments.length (C.comments.flatMap encB)
theorem zip_snoc {α β : Type} : ∀ (us : List α) (ys : List β) (u : α) (y : β), ys[us.length]? = some y → (us ++ [u]).zip ys = us.zip ys ++ [(u, y)]
  | [], [], _, _, h => by simp at h
  | [], y :: ys, u, y', h => by simp at h; subst h; simp
  | _ :: _, [], _, _, h => by simp at h
  | a :: us, y :: ys, u, y', h => by simp at h; simp [zip_snoc us ys u y' h]
theorem CpyL.step {w wx w5 : World} {b gj cap : Nat} {V : CV} {C : Circ} {vs us : List Value} {q : Nat} {v' : Value} {zs : List Int} (h : CpyL w wx b V C vs us q) (_hb : w.heap.size ≤ b) (hq : q < vs.length) (hz : C.justice[q]? = some zs) (hV : V.j = .slice (some ⟨gj, 0, none⟩) vs.length cap)
    (hbel : Below wx.heap.size wx w5) (ho : w5.ownsRow wx.heap.size 3 1 v' zs.length (zs.flatMap encI)) : CpyL w (w5.setCell ⟨gj, q, none⟩ v') b V C vs (us ++ [v']) (q + 1) := by
  have hj5 := own_below h.j hbel
  obtain ⟨g, cap', hv, hBg, hglt, _, _, _, hset⟩ := own_cells_v hj5 (by omega)
  rw [hV] at hv
  injection hv with e1 e2 e3
  injection e1 with e1
  injection e1 with e1
  subst e1 e3
  have hbw : w.heap.size ≤ wx.heap.size := h.below.size
  have hblk : ∃ cs, Blk w5 gj 22 cs := by
    rcases hj5.2 with ⟨_, h0⟩ | ⟨g', cap2, cur, hv', _, hh, _⟩
    · omega
    · rw [hV] at hv'
      injection hv' with e1
      injection e1 with e1
      injection e1 with e1
      subst e1
      exact ⟨cur, hh⟩
  obtain ⟨cs, hblk⟩ := hblk
  have hk : ∀ {t : TypeId} {k n B : Nat} {v : Value} {xs : List Value}, w5.ownsRow B t k v n xs → t ≠ 22 → (w5.setCell ⟨gj, q, none⟩ v').ownsRow B t k v n xs := fun ho ht =>
    own_of_block ho fun g hg => Below.heap_setCell _ _ _ _ (fun e => own_blk_ne ho hblk ht (by rw [hg, e]))
  have hbx := h.box.below hbel h.box.lt
  have hrs := h.res.below hbel h.res.lt
  have hf := h.fam.snoc hbel hbw (by rw [← flat_ints]; exact ho)
  refine ⟨(h.below.trans ⟨hbel.os, hbel.tape, hbel.output, hbel.size, fun k hk => hbel.block k (by omega)⟩).setCell hBg _, Blk.far hbx (fun e => hbx.ne_ hblk (by decide) e) _, Blk.far hrs (fun e => hrs.ne_ hblk (by decide) e) _, by simp [h.len], ?_, ?_, hk (own_below h.l hbel) (by decide), hk (own_below h.a hbel) (by decide), hk (own_below h.s hbel) (by decide), hk (own_below h.t hbel) (by decide)⟩
  · rw [zip_snoc us C.justice v' zs (by rw [h.len]; exact hz), ← List.append_assoc]
    exact ⟨fun p hp => hk (hf.own p hp) (by decide), hf.apart⟩
  · have := hset q hq v'
    have e : (us ++ vs.drop q).set q v' = us ++ [v'] ++ vs.drop (q + 1) := by
      rw [List.set_append_right _ _ (by rw [h.len]; exact Nat.le_refl _), h.len, Nat.sub_self]
      obtain ⟨u, hu⟩ : ∃ u, vs[q]? = some u := ⟨_, List.getElem?_eq_getElem hq⟩
      rw [drop_one hu]
      simp
    rw [e] at this
    exact this
theorem wpOp_of {P : Program} {ops : Array Oper} {Q : Exit → Act → World → Prop} {i : Nat} {K : Act → World → Prop} {a : Act} {w : World} {o : Oper} (ho : ops[i]? = some o) (hg : o.guard = none) (h : o.wp P a w K Q) : wpOp P ops Q i K a w := by
  unfold wpOp
  simp only [ho]
  rw [if_pos (by simp [Region.wanted, hg])]
  exact .inl h
end Go.Proofs.Ytdodhbfplglbkaa

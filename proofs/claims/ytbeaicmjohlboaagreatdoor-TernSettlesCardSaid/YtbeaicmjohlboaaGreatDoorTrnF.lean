/- Tern: a spread is laid: the contract of newSpread. -/
import Derived.Test.YtbeaicmjohlboaaGreatDoorTrnB
import Derived.Test.YtbeaicmjohlboaaGreatDoorAppF
import Derived.Test.YtbeaicmjohlboaaGreatDoorSimK
import Derived.Test.YtbeaicmjohlboaaGreatDoorOrdW
import Derived.Deep.RegionHeld
namespace Go.Proofs.YtbeaicmjohlboaaGreatDoor
open Go.RowKit

/-- Where a spread lies: its box, its values, what is held, its gates and users. -/
structure SpB where
  bs : Nat
  gv : Nat
  gh : Nat
  n : Nat
  aV : Value
  uV : Value
abbrev SpB.cells (S : SpB) (tv : Value) : Array Value := #[S.aV, S.uV, .slice (some ⟨S.gv, 0, none⟩) S.n S.n, .slice (some ⟨S.gh, 0, none⟩) S.n S.n, tv]
structure SP (w0 wr : World) (S : SpB) (tv : Value) (T : List Int) (H : List Bool) (tr : List (Int × Int)) (us : List Value) (US : List (List Int)) : Prop where
  grown : w0.grownBy wr (some S.gv)
  hgv : S.gv < w0.heap.size
  hbs : w0.heap.size ≤ S.bs
  hgh : w0.heap.size ≤ S.gh
  tl : T.length = S.n
  hl : H.length = S.n
  ul : US.length = S.n
  val : Nums wr S.gv T
  held : Tab wr S.gh H
  box : Blk wr S.bs 55 (S.cells tv)
  trail : wr.ownsRow w0.heap.size 69 2 tv tr.length (tr.flatMap encP)
  users : JRow wr w0.heap.size S.uV us US
/-- But for the values, spreads and trails nothing turns. -/
structure KP (gv : Nat) (w w' : World) : Prop where
  os : w'.os = w.os
  tape : w'.tape = w.tape
  output : w'.output = w.output
  size : w.heap.size ≤ w'.heap.size
  blk : ∀ k, k < w.heap.size → k ≠ gv → (∀ cs, ¬ Blk w k 55 cs) → (∀ cs, ¬ Blk w k 69 cs) → w'.heap[k]? = w.heap[k]?
theorem KP.refl (gv : Nat) (w : World) : KP gv w w := ⟨rfl, rfl, rfl, Nat.le_refl _, fun _ _ _ _ _ => rfl⟩
theorem KP.of_below {gv : Nat} {w w' : World} (h : Below w.heap.size w w') : KP gv w w' := ⟨h.os, h.tape, h.output, h.size, fun k hk _ _ _ => h.block k hk⟩
theorem KP.trans {gv : Nat} {w w1 w2 : World} (h : KP gv w w1) (k : KP gv w1 w2) : KP gv w w2 := by
  refine ⟨k.os.trans h.os, k.tape.trans h.tape, k.output.trans h.output, Nat.le_trans h.size k.size, fun b hb hne h1 h2 => ?_⟩
  have e := h.blk b hb hne h1 h2
  refine (k.blk b (Nat.lt_of_lt_of_le hb h.size) hne (fun cs hc => h1 cs ?_) (fun cs hc => h2 cs ?_)).trans e
  · exact e.symm.trans hc
  · exact e.symm.trans hc
theorem KP.own {gv B n k : Nat} {w w' : World} {t : TypeId} {v : Value} {xs : List Value} (h : KP gv w w') (ho : w.ownsRow B t k v n xs) (h1 : t ≠ 55) (h2 : t ≠ 69) (h3 : gv < B) : w'.ownsRow B t k v n xs :=
  own_of_block ho fun g hg => h.blk g (ho.lt g hg).2 (fun e => by have := (ho.lt g hg).1; omega) (fun cs hc => own_blk_ne ho hc h1 (by rw [hg])) (fun cs hc => own_blk_ne ho hc h2 (by rw [hg]))
theorem KP.jrow {gv B : Nat} {w w' : World} {v : Value} {us : List Value} {zss : List (List Int)} (h : KP gv w w') (hj : JRow w B v us zss) (h3 : gv < B) : JRow w' B v us zss :=
  ⟨hj.ul, h.own hj.own (by decide) (by decide) h3, fun i u zs hu hz => h.own (hj.each i u zs hu hz) (by decide) (by decide) h3⟩
section
variable {w0 wr : World} {S : SpB} {tv : Value} {T : List Int} {H : List Bool} {tr : List (Int × Int)} {us : List Value} {US : List (List Int)}
theorem SP.on {w1 : World} (h : SP w0 wr S tv T H tr us US) (hb : Below wr.heap.size wr w1) : SP w0 w1 S tv T H tr us US :=
  ⟨⟨hb.os.trans h.grown.os, hb.tape.trans h.grown.tape, hb.output.trans h.grown.output, Nat.le_trans h.grown.size hb.size, fun k hk hne => (hb.block k (Nat.lt_of_lt_of_le hk h.grown.size)).trans (h.grown.block k hk hne)⟩, h.hgv, h.hbs, h.hgh, h.tl, h.hl, h.ul, Blk.below h.val hb (Blk.lt h.val), Blk.below h.held hb (Blk.lt h.held), h.box.below hb h.box.lt, own_below h.trail hb, h.users.below hb⟩
theorem SP.sp_cells (h : SP w0 wr S tv T H tr us US) : wr.cell? ⟨S.bs, 0, none⟩ = some S.aV ∧ wr.cell? ⟨S.bs, 1, none⟩ = some S.uV ∧ wr.cell? ⟨S.bs, 2, none⟩ = some (.slice (some ⟨S.gv, 0, none⟩) S.n S.n) ∧ wr.cell? ⟨S.bs, 3, none⟩ = some (.slice (some ⟨S.gh, 0, none⟩) S.n S.n) ∧ wr.cell? ⟨S.bs, 4, none⟩ = some tv :=
  ⟨h.box.cell 0, h.box.cell 1, h.box.cell 2, h.box.cell 3, h.box.cell 4⟩
theorem SP.trail_ne (h : SP w0 wr S tv T H tr us US) : tv.ownBlock ≠ some S.bs ∧ tv.ownBlock ≠ some S.gh ∧ tv.ownBlock ≠ some S.gv :=
  ⟨own_blk_ne h.trail h.box (by decide), own_blk_ne h.trail h.held (by decide), fun e => by have := (h.trail.lt _ e).1; have := h.hgv; omega⟩
/-- A cell of the values is written. -/
theorem SP.set_ (h : SP w0 wr S tv T H tr us US) (v : Nat) (x : Int) : SP w0 (wr.setCell ⟨S.gv, v, none⟩ (.int .i64 x)) S tv (T.set v x) H tr us US ∧ KP S.gv wr (wr.setCell ⟨S.gv, v, none⟩ (.int .i64 x)) := by
  have hgv := h.hgv
  have key : ∀ {t : TypeId} {k n : Nat} {v' : Value} {xs : List Value}, wr.ownsRow w0.heap.size t k v' n xs → (wr.setCell ⟨S.gv, v, none⟩ (.int .i64 x)).ownsRow w0.heap.size t k v' n xs := fun ho => own_setQ ho _ _ (fun g hg e => by have := (ho.lt g hg).1; simp only at e; omega)
  refine ⟨⟨only_setL h.grown v (.int .i64 x), hgv, h.hbs, h.hgh, by simp [h.tl], h.hl, h.ul, Nums.set_ h.val v x, Blk.far h.held (by have := h.hgh; simp only; omega) _, Blk.far h.box (by have := h.hbs; simp only; omega) _, key h.trail, ⟨h.users.ul, key h.users.own, fun i u zs hu hz => key (h.users.each i u zs hu hz)⟩⟩, rfl, rfl, rfl, by simp, fun k _ hne _ _ => ?_⟩
  exact Below.heap_setCell _ _ _ _ hne
/-- The trail is another one. -/
theorem SP.setTrail {w3 : World} {tv3 : Value} {tr3 : List (Int × Int)} (h : SP w0 wr S tv T H tr us US) (hg3 : wr.grownBy w3 tv.ownBlock) (ho3 : w3.ownsRow w0.heap.size 69 2 tv3 tr3.length (tr3.flatMap encP)) :
    SP w0 (w3.setCell ⟨S.bs, 4, none⟩ tv3) S tv3 T H tr3 us US ∧ KP S.gv wr (w3.setCell ⟨S.bs, 4, none⟩ tv3) ∧ Blk w3 S.bs 55 (S.cells tv) := by
  obtain ⟨n1, n2, n3⟩ := h.trail_ne
  have hb3 : Blk w3 S.bs 55 (S.cells tv) := h.box.grown hg3 (Ne.symm n1)
  have hv3 : Nums w3 S.gv T := Blk.grown h.val hg3 (Ne.symm n3)
  have hh3 : Tab w3 S.gh H := Blk.grown h.held hg3 (Ne.symm n2)
  have key : ∀ {t : TypeId} {k n : Nat} {v' : Value} {xs : List Value}, t ≠ 69 → t ≠ 55 → wr.ownsRow w0.heap.size t k v' n xs → (w3.setCell ⟨S.bs, 4, none⟩ tv3).ownsRow w0.heap.size t k v' n xs := fun h1 h2 ho => by
    have h3 := own_other ho h.trail (Ne.symm h1) hg3
    exact own_setQ h3 _ _ (fun g hg e => own_blk_ne h3 hb3 h2 (by rw [hg]; exact congrArg some e))
  have hbs := h.hbs
  have hgv := h.hgv
  have hgr : w0.grownBy w3 (some S.gv) := ⟨hg3.os.trans h.grown.os, hg3.tape.trans h.grown.tape, hg3.output.trans h.grown.output, Nat.le_trans h.grown.size hg3.size, fun k hk hne => (hg3.block k (Nat.lt_of_lt_of_le hk h.grown.size) (fun e => by have := (h.trail.lt k e.symm).1; omega)).trans (h.grown.block k hk hne)⟩
  have hbk3 := Blk.set_ hb3 4 tv3
  refine ⟨⟨⟨hgr.os, hgr.tape, hgr.output, by have := hgr.size; simpa using this, fun k hk hne => (Below.heap_setCell _ _ _ _ (by simp only; omega)).trans (hgr.block k hk hne)⟩, hgv, hbs, h.hgh, h.tl, h.hl, h.ul, Blk.far hv3 (by simp only; omega) _, Blk.far hh3 ?_ _, by simpa using hbk3, ?_, ⟨h.users.ul, key (by decide) (by decide) h.users.own, fun i u zs hu hz => key (by decide) (by decide) (h.users.each i u zs hu hz)⟩⟩, ⟨hg3.os, hg3.tape, hg3.output, by have := hg3.size; simpa using this, fun k hk hne h1 h2 => ?_⟩, hb3⟩
  · intro e
    have e2 : S.gh = S.bs := e
    have h9 := hh3
    unfold Tab at h9
    rw [e2] at h9
    have h8 : w3.heap[S.bs]? = some (.cells (S.cells tv) 55 (0, 0)) := hb3
    have h7 : w3.heap[S.bs]? = some (.cells (H.map Value.bool).toArray 4 (0, 0)) := h9
    rw [h8] at h7
    injection h7 with h7
    injection h7 with _ h7 _
    exact absurd h7 (by decide)
  · exact own_setQ ho3 _ _ (fun g hg e => own_blk_ne ho3 hb3 (by decide) (by rw [hg]; exact congrArg some e))
  · have hkb : k ≠ S.bs := fun e => h1 (S.cells tv) (by rw [e]; exact h.box)
    refine (Below.heap_setCell _ _ _ _ hkb).trans (hg3.block k hk (fun e => ?_))
    obtain ⟨cs, hc⟩ := own_cellsF h.trail e.symm
    exact h2 cs hc
end

theorem infoCh : (Tryz.prog.info? 69).map (fun i => (i.zero, i.size, i.bytes)) = some (some (.agg #[.int .i64 0, .int .i64 0]), 2, 16) := by kernel_rfl
theorem reads_pair (w : World) (a b : Value) (t : TypeId) : Reads (w.alloc (.cells #[a, b] t)) (w.heap.size + 1) 2 (some ⟨w.heap.size, 0, none⟩) 1 [a, b] := by
  refine ⟨rfl, fun _ => ⟨_, rfl, by simp, fun j u hu => ?_⟩⟩
  rw [add_none, Nat.zero_add, cell_of_row _ _ _ #[a, b] t (0, 0) (heap_alloc_new w _)]
  simpa using hu

set_option maxHeartbeats 4000000 in
set_option maxRecDepth 100000 in
theorem sPut_any (w0 w : World) (S : SpB) (tv : Value) (T : List Int) (H : List Bool) (tr : List (Int × Int)) (us : List Value) (US : List (List Int)) (v : Nat) (h : SP w0 w S tv T H tr us US) (hv : v < T.length) (hn : S.n ≤ 20000) (ht : tr.length ≤ S.n) :
    Calls Tryz.prog 67 #[.pointer (some ⟨S.bs, 0, none⟩), .int .i64 v] w fun e w' => e = .returned (.tuple #[]) ∧ KP S.gv w w' ∧ ∃ tv', SP w0 w' S tv' (put1 (T, tr) v).1 H (put1 (T, tr) v).2 us US := by
  have HH := Lib.hid h
  obtain ⟨bs, gv, gh, n, aV, uV⟩ := S
  obtain ⟨A, c, e⟩ := own_slice_k h.trail
  subst e
  obtain ⟨c0, c1, c2, c3, c4⟩ := h.sp_cells
  have hvn : v < n := by have := h.tl; simp only at this; omega
  have d0 := Nums.cell h.val (getD_int hv)
  have hbl := h.box.lt
  have hvl := Blk.lt h.val
  simp only at c0 c1 c2 c3 c4 d0 hn ht hbl hvl
  have hv0 : (0 : Int) ≤ (v : Int) := by omega
  have hv1 : (v : Int) < (n : Int) := by omega
  unfold put1
  simp only
  by_cases h2 : T.getD v 0 = 2
  · rw [if_pos h2]
    rw [h2] at d0
    clear h2 h
    go_enter Tryz.func67, Tryz.ntmps67
    go_wp2
    (try simp only [Exit.inBlock, Exit.then]); refine bodyPost_ret (results_none rfl _ _ _) rfl ?_
    exact ⟨rfl, KP.refl _ _, _, HH.out⟩
  · rw [if_neg h2]
    obtain ⟨x, hx⟩ : ∃ x, T.getD v 0 = x := ⟨_, rfl⟩
    rw [hx] at d0 h2 ⊢
    have hq2 : (x == 2) = false := by simpa using h2
    obtain ⟨i0, hi0, hz0, hz1, hz2⟩ := info_of2 infoCh
    have HI0 := Lib.hid (And.intro hi0 (And.intro hz0 (And.intro hz1 hz2)))
    have HBD : Hid (Below w.heap.size w w.drew) := Lib.hid (Below.refl _ _).drew
    have HALL : Hid (∀ wz, Below w.heap.size w wz → (wz.cell? ⟨bs, 2, none⟩ = some (.slice (some ⟨gv, 0, none⟩) n n) ∧ wz.cell? ⟨bs, 4, none⟩ = some (.slice A tr.length c) ∧ wz.cell? ⟨gv, v, none⟩ = some (.int .i64 x)) ∧ wz.ownsRow w0.heap.size 69 2 (.slice A tr.length c) tr.length (tr.flatMap encP)) := Lib.hid (fun wz hb => by
      have h9 := HH.out.on hb
      obtain ⟨_, _, e2, _, e4⟩ := h9.sp_cells
      have := Nums.cell h9.val (getD_int hv)
      rw [hx] at this
      exact ⟨⟨e2, e4, this⟩, h9.trail⟩)
    have HW3 : Hid (∀ (wz w3 : World), Below w.heap.size w wz → wz.grownBy w3 (Value.slice A tr.length c).ownBlock → (w3.cell? ⟨bs, 2, none⟩ = some (.slice (some ⟨gv, 0, none⟩) n n) ∧ w3.cell? ⟨bs, 4, none⟩ = some (.slice A tr.length c) ∧ w3.cell? ⟨gv, v, none⟩ = some (.int .i64 x)) ∧ w3.frozen? ⟨bs, 4, none⟩ = false ∧ bs < w3.heap.size) := Lib.hid (fun wz w3 hb hg => by
      have h9 := HH.out.on hb
      obtain ⟨n1, n2, n3⟩ := h9.trail_ne
      have k1 := h9.box.grown hg (Ne.symm n1)
      have k2 : Nums w3 gv T := Blk.grown h9.val hg (Ne.symm n3)
      have := Nums.cell k2 (getD_int hv)
      rw [hx] at this
      exact ⟨⟨k1.cell 2, k1.cell 4, this⟩, k1.frozen 4, k1.lt⟩)
    have HSZ : Hid (w0.heap.size ≤ w.heap.size) := Lib.hid h.grown.size
    have HTL := Lib.hid (And.intro hv hx)
    clear h hx hv hi0 hz0 hz1 hz2 h2
    go_enter Tryz.func67, Tryz.ntmps67
    go_upto_region 1 with (fail)
    obtain ⟨⟨e2, e4, e6⟩, _⟩ := HALL.out _ HBD.out
    obtain ⟨⟨f2, f4, f6⟩, _⟩ := HALL.out _ (HBD.out.alloc (Nat.le_refl _) (.cells #[.int .i64 v, .int .i64 x] 69))
    obtain ⟨⟨g2, g4, g6⟩, _⟩ := HALL.out _ ((Below.refl w.heap.size w).alloc (Nat.le_refl _) (.cells #[.int .i64 v, .int .i64 x] 69))
    go_region_law ((first
        | (refine step_append_any _ rfl (.tmp 16) (.tmp 26) _ rfl w0.heap.size 69 i0 _ 2 16 Tryz.underlying53 HI0.out.1 HI0.out.2.1 HI0.out.2.2.1 HI0.out.2.2.2 rfl (by omega) (.slice A tr.length c) tr.length (tr.flatMap encP) (by simp [Act.eval]) (HALL.out _ (HBD.out.alloc (Nat.le_refl _) _)).2 (w.heap.size + 1) (some ⟨w.heap.size, 0, none⟩) 1 1 [.int .i64 v, .int .i64 x] (by simp [Act.eval]) (reads_pair _ _ _ _) (by simp [Value.oneCell']) (by simp only [maxLen]; omega) (by omega) (by have := HSZ.out; first | (simp; done) | (simp; omega)) ?_; intro v3 w3 hown3 hg3 hat3; obtain ⟨A3, k3, he3⟩ := own_slice_k hown3; subst he3; obtain ⟨⟨q2, q4, q6⟩, qf, ql⟩ := HW3.out _ w3 (HBD.out.alloc (Nat.le_refl _) _) hg3; have HO3 := Lib.hid hown3; have HG3 := Lib.hid hg3; clear hown3 hg3 hat3)))
    all_goals (
      have hst := (HH.out.on (HBD.out.alloc (Nat.le_refl _) (.cells #[.int .i64 v, .int .i64 x] 69))).setTrail (tr3 := tr ++ [((v : Int), x)]) HG3.out (by have h9 := HO3.out; rw [List.flatMap_append, List.length_append]; simpa using h9)
      have HS4 := Lib.hid hst.1
      have HK4 := Lib.hid ((KP.of_below (HBD.out.alloc (Nat.le_refl _) (.cells #[.int .i64 v, .int .i64 x] 69))).trans hst.2.1)
      clear hst
      have z2 := HS4.out.box.cell 2
      have z6 := Nums.cell HS4.out.val (getD_int HTL.out.1)
      have zf := Blk.frozen HS4.out.val v
      have zl := Blk.lt HS4.out.val
      simp only [List.getElem?_toArray, List.getElem?_cons_zero, List.getElem?_cons_succ] at z2 z6 zf zl
      go_wp2
      go_end0
      exact ⟨rfl, HK4.out.trans (HS4.out.set_ v 2).2, _, (HS4.out.set_ v 2).1⟩)

/-- A row of the call's own, made shorter. -/
theorem own_prefix {w : World} {B k n m c : Nat} {t : TypeId} {A : Option Addr} {xs : List Value} (h : w.ownsRow B t k (.slice A n c) n xs) (hm : m ≤ n) : w.ownsRow B t k (.slice A m c) m (xs.take (m * k)) := by
  obtain ⟨h1, h2⟩ := h
  refine ⟨by rw [List.length_take, h1]; exact Nat.min_eq_left (Nat.mul_le_mul_right k hm), ?_⟩
  rcases h2 with ⟨e, h0⟩ | ⟨g, cap, cur, e, hB, hh, q1, q2, q3, q4⟩
  · injection e with e1 e2 e3
    subst e1 e2 e3
    have : m = 0 := by omega
    subst this
    exact .inl ⟨rfl, rfl⟩
  · injection e with e1 e2 e3
    subst e1 e3
    refine .inr ⟨g, c, cur, rfl, hB, hh, by omega, q2, q3, ?_⟩
    rw [← q4, List.take_take, Nat.min_eq_left (Nat.mul_le_mul_right k hm)]
theorem flat_takeP (tr : List (Int × Int)) (m : Nat) : (tr.flatMap encP).take (m * 2) = (tr.take m).flatMap encP := by
  induction m generalizing tr with
  | zero => simp
  | succ m ih =>
    cases tr with
    | nil => simp
    | cons p r =>
      rw [show (m + 1) * 2 = m * 2 + 1 + 1 by omega]
      simp only [List.flatMap_cons, List.cons_append, List.nil_append, List.take_succ_cons]
      rw [ih r]

set_option maxHeartbeats 4000000 in
set_option maxRecDepth 100000 in
theorem sBack_any (w0 w : World) (S : SpB) (tv : Value) (T : List Int) (H : List Bool) (tr : List (Int × Int)) (us : List Value) (US : List (List Int)) (f : Nat) (h : SP w0 w S tv T H tr us US) (hf : f < tr.length) (hn : S.n ≤ 20000) (ht : tr.length ≤ S.n)
    (hr : ∀ p ∈ tr, 0 ≤ p.1 ∧ p.1 < (T.length : Int)) :
    Calls Tryz.prog 68 #[.pointer (some ⟨S.bs, 0, none⟩), .int .i64 f] w fun e w' => e = .returned (.tuple #[]) ∧ KP S.gv w w' ∧ ∃ tv', SP w0 w' S tv' (back1 T (tr.drop f)) H (tr.take f) us US := by
  have HH := Lib.hid h
  have HR := Lib.hid hr
  obtain ⟨bs, gv, gh, n, aV, uV⟩ := S
  obtain ⟨A, c, e⟩ := own_slice_k h.trail
  subst e
  simp only at hn ht
  obtain ⟨q, hq⟩ : ∃ q, tr.length = q := ⟨_, rfl⟩
  obtain ⟨p0, hp0⟩ : ∃ p, tr[f]? = some p := ⟨_, List.getElem?_eq_getElem hf⟩
  obtain ⟨A', c', e', hc1, hc2, hrun⟩ := own_rowe lenP h.trail
  injection e' with e1 e2 e3
  clear e2
  subst e1 e3
  obtain ⟨b, off, e, _, _⟩ := hrun f p0 hp0
  subst e
  obtain ⟨c0, c1, c2, c3, c4⟩ := h.sp_cells
  have hbl := h.box.lt
  simp only at c0 c1 c2 c3 c4 hbl
  rw [hq] at c4 hf ht hc1
  have hc3 : c ≤ 9223372036854775807 := by unfold maxLen at hc2; omega
  have HQ := Lib.hid hq
  have hf0 : (0 : Int) ≤ (f : Int) := by omega
  have hf1 : (f : Int) ≤ (q : Int) := by omega
  have hf2 : (q : Int) ≤ (c : Int) := by omega
  have hf3 : ¬ c = f := by omega
  have hf4 : (f : Int) ≤ (c : Int) := by omega
  have HTL : Hid (T.length = n) := Lib.hid h.tl
  rw [hq] at HH
  clear h hr hq hp0 hrun hc2
  go_enter Tryz.func68, Tryz.ntmps68
  go_wp2
  go_loopg [13] (q - f) (fun k j wx => ∃ i : Nat, i ≤ q - f ∧ k = q - f - i ∧ j = .int .i64 i ∧ SP w0 wx ⟨bs, gv, gh, n, aV, uV⟩ (.slice (some ⟨b, off, none⟩) q c) (back1 T ((tr.drop f).take i)) H tr us US ∧ KP gv w wx)
  case atStart => exact ⟨0, Nat.zero_le _, rfl, rfl, HH.out, KP.refl _ _⟩
  case round =>
    obtain ⟨i, hi, hgk, rfl, hst, hkp⟩ := hrel
    subst hgk
    have HST := Lib.hid hst
    have HKP := Lib.hid hkp
    clear hkp
    by_cases hlt : i < q - f
    · obtain ⟨p, hp⟩ : ∃ p, tr[f + i]? = some p := ⟨_, List.getElem?_eq_getElem (by rw [HQ.out]; omega)⟩
      obtain ⟨A', c', e', _, _, hrun⟩ := own_rowe lenP hst.trail
      injection e' with e1 e2 e3
      clear e2
      subst e1 e3
      obtain ⟨b', off', e, hbw, hcell⟩ := hrun (f + i) p hp
      injection e with e
      injection e with e1 e2
      subst e1 e2
      have h0 := hcell 0 _ rfl
      have h1 := hcell 1 _ rfl
      rw [show off + ((f + i) * 2 + 0) = off + f * 2 + i * 2 by omega] at h0
      rw [show off + ((f + i) * 2 + 1) = off + f * 2 + i * 2 + 1 by omega] at h1
      obtain ⟨r0, r1⟩ := HR.out p (List.mem_of_getElem? hp)
      have HTK : Hid ((tr.drop f).take (i + 1) = (tr.drop f).take i ++ [p]) := Lib.hid (by rw [List.take_add_one, List.getElem?_drop, hp]; rfl)
      obtain ⟨x, y⟩ := p
      simp only at r0 r1 h0 h1
      rw [HTL.out] at r1
      have HSA := Lib.hid ((hst.on ((Below.refl _ _).alloc (Nat.le_refl _) (.cells #[.int .i64 x, .int .i64 y] 69))).on (Below.refl _ _).drew)
      have HKA := Lib.hid ((HKP.out.trans (KP.of_below ((Below.refl _ _).alloc (Nat.le_refl _) (.cells #[.int .i64 x, .int .i64 y] 69)))).trans (KP.of_below (Below.refl _ _).drew))
      have hxl : x.toNat < (back1 T ((tr.drop f).take i)).length := by rw [back1_len, HTL.out]; omega
      have z2 := HSA.out.box.cell 2
      have zo := Nums.cell HSA.out.val (getD_int hxl)
      have zf := Blk.frozen HSA.out.val x.toNat
      have zl := Blk.lt HSA.out.val
      simp only [List.getElem?_toArray, List.getElem?_cons_zero, List.getElem?_cons_succ] at z2 zo zf zl
      have hil : (i : Int) < ((q - f : Nat) : Int) := by omega
      have hil0 : (0 : Int) ≤ (i : Int) := by omega
      clear hst hp hcell hrun hxl
      go_upto_region 3 with (fail)
      go_region
      go_wp2
      go_roundg (q - f - (i + 1))
      case measure => omega
      case rel =>
        have h9 := HSA.out.set_ x.toNat y
        refine ⟨i + 1, by omega, rfl, by go_num, ?_, HKA.out.trans h9.2⟩
        rw [HTK.out, back1_snoc]
        exact h9.1
    · have hie : i = q - f := by omega
      have HB : Hid ((tr.drop f).take i = tr.drop f) := Lib.hid (List.take_of_length_le (by rw [List.length_drop, HQ.out]; omega))
      rw [HB.out] at hst HST
      have htr := hst.trail
      rw [HQ.out] at htr
      have hpre := own_prefix htr (m := f) (by omega)
      have hfin := hst.setTrail (tr3 := tr.take f) (World.grownBy.refl wr _) (by rw [flat_takeP] at hpre; rw [List.length_take, HQ.out, Nat.min_eq_left (by omega)]; exact hpre)
      have HFIN := Lib.hid hfin
      have z4 := hst.box.cell 4
      have zf := hst.box.frozen 4
      have zl := hst.box.lt
      simp only [List.getElem?_toArray, List.getElem?_cons_zero, List.getElem?_cons_succ] at z4 zf zl
      clear hst htr hpre hfin hlt
      go_wp2
      go_end0
      exact ⟨rfl, HKP.out.trans HFIN.out.2.1, _, HFIN.out.1⟩
end Go.Proofs.YtbeaicmjohlboaaGreatDoor

namespace Go.Proofs.YtbeaicmjohlboaaGreatDoor
open Go.RowKit

theorem Lo.row3 {C : Circ} {T Ts : List Int} {tr0 : List (Int × Int)} {s : List Int × List (Int × Int)} {a : Nat} {Pd : Nat → Prop} (h : Lo C T Ts tr0 s a Pd) (h3 : Row3 T) : Row3 s.1 := fun x hx => by
  obtain ⟨k, hk⟩ := List.getElem?_of_mem hx
  obtain ⟨new, _, _, e3, e4⟩ := h.ex
  have hx2 : s.1.getD k 0 = x := by rw [List.getD_eq_getElem?_getD, hk]; rfl
  rcases e4 k with q | q
  · rw [← hx2, q]; exact row3_at h3 k
  · obtain ⟨u, q1, _, _, _, q5⟩ := e3 _ q
    have : k = u := by simp only at q1; omega
    subst this
    rw [← hx2, q5]; exact .inr (.inr rfl)
theorem user1_yes {C : Circ} {s : List Int × List (Int × Int)} {i : Nat} {z : Tri} (hz : C.ands[i]? = some z) (h : gv3 s.1 z = 2) : user1 C s (i : Int) = put1 s (z.1 / 2).toNat := by
  have hzD : C.ands.getD (i : Int).toNat (0, 0, 0) = z := by simp [List.getD_eq_getElem?_getD, hz]
  unfold user1
  rw [hzD, if_pos h]
theorem user1_no {C : Circ} {s : List Int × List (Int × Int)} {i : Nat} {z : Tri} (hz : C.ands[i]? = some z) (h : gv3 s.1 z ≠ 2) : user1 C s (i : Int) = s := by
  have hzD : C.ands.getD (i : Int).toNat (0, 0, 0) = z := by simp [List.getD_eq_getElem?_getD, hz]
  unfold user1
  rw [hzD, if_neg h]
theorem put1_keep (s : List Int × List (Int × Int)) (v : Nat) : (∀ pos, pos < s.2.length → (put1 s v).2[pos]? = s.2[pos]?) ∧ ∀ u : Nat, s.1.getD u 0 = 2 → (put1 s v).1.getD u 0 = 2 := by
  unfold put1
  split
  · exact ⟨fun _ _ => rfl, fun _ h => h⟩
  · refine ⟨fun pos hp => List.getElem?_append_left hp, fun u hu => ?_⟩
    by_cases e : v = u
    · subst e
      rcases Nat.lt_or_ge v s.1.length with hl | hl
      · exact set3_at hl
      · rw [List.getD_eq_getElem?_getD, List.getElem?_eq_none hl] at hu; simp at hu
    · simp only; rw [set3_far e]; exact hu
theorem user1_keep (C : Circ) (s : List Int × List (Int × Int)) (i : Int) : (∀ pos, pos < s.2.length → (user1 C s i).2[pos]? = s.2[pos]?) ∧ ∀ u : Nat, s.1.getD u 0 = 2 → (user1 C s i).1.getD u 0 = 2 := by
  unfold user1
  split
  · exact put1_keep _ _
  · exact ⟨fun _ _ => rfl, fun _ h => h⟩
theorem put1_two {T : List Int} {tr : List (Int × Int)} {v : Nat} (hv : v < T.length) : (put1 (T, tr) v).1.getD v 0 = 2 := by
  unfold put1
  split
  · assumption
  · exact set3_at hv
/-- What stands while one latch more is made 2. -/
structure LS (w0 w wx : World) (S : SpB) (C : Circ) (T Ts : List Int) (H : List Bool) (tr : List (Int × Int)) (us : List Value) (US : List (List Int)) (v0 a : Nat) (tv : Value) (s : List Int × List (Int × Int)) (Pd : Nat → Prop) : Prop where
  sp : SP w0 wx S tv s.1 H s.2 us US
  kp : KP S.gv w wx
  lo : Lo C T Ts tr s a Pd
  a0 : tr.length ≤ a
  a1 : a ≤ s.2.length
  hd : ∀ (pos : Nat) (p : Int × Int), tr.length ≤ pos → pos < a → s.2[pos]? = some p → H.getD p.1.toNat false = false
  two : s.1.getD v0 0 = 2
section
variable {w0 w wx : World} {S : SpB} {C : Circ} {T Ts : List Int} {H : List Bool} {tr : List (Int × Int)} {us : List Value} {US : List (List Int)} {v0 a : Nat} {tv : Value} {s : List Int × List (Int × Int)} {Pd : Nat → Prop}
theorem LS.on {w1 : World} (h : LS w0 w wx S C T Ts H tr us US v0 a tv s Pd) (hb : Below wx.heap.size wx w1) : LS w0 w w1 S C T Ts H tr us US v0 a tv s Pd :=
  ⟨h.sp.on hb, h.kp.trans (KP.of_below hb), h.lo, h.a0, h.a1, h.hd, h.two⟩
theorem LS.len (h : LS w0 w wx S C T Ts H tr us US v0 a tv s Pd) (k : Trl T tr) : s.2.length ≤ S.n := by
  have := (h.lo.trl k).le
  rw [h.sp.tl] at this
  exact this
theorem LS.next (h : LS w0 w wx S C T Ts H tr us US v0 a tv s (fun _ => False)) {p : Int × Int} {v : Nat} (hp : s.2[a]? = some p) (hv : p.1 = (v : Int)) {zs : List Int} (hu : IsUsers C v zs) (hh : H.getD v false = false) : LS w0 w wx S C T Ts H tr us US v0 (a + 1) tv s (fun k => (k : Int) ∈ zs.drop 0) := by
  refine ⟨h.sp, h.kp, h.lo.next hp hv hu, by have := h.a0; omega, (List.getElem?_eq_some_iff.1 hp).1, fun pos q h1 h2 h3 => ?_, h.two⟩
  by_cases e : pos = a
  · subst e
    rw [hp] at h3
    injection h3 with h3
    subst h3
    have : p.1.toNat = v := by omega
    rw [this]; exact hh
  · exact h.hd pos q h1 (by omega) h3
theorem LS.user {w1 : World} {tv' : Value} {L I : List Int} {zs : List Int} {q i : Nat} (h0 : (checkR C).2 = 0) (hTs : ValA C L I Ts) (hl : T.length = C.max.toNat + 1) (h : LS w0 w wx S C T Ts H tr us US v0 a tv s (fun k => (k : Int) ∈ zs.drop q)) (hq : zs[q]? = some (i : Int)) (hi : i < C.ands.length)
    (hsp : SP w0 w1 S tv' (user1 C s (i : Int)).1 H (user1 C s (i : Int)).2 us US) (hkp : KP S.gv w w1) : LS w0 w w1 S C T Ts H tr us US v0 a tv' (user1 C s (i : Int)) (fun k => (k : Int) ∈ zs.drop (q + 1)) := by
  have h1 := h.lo.user h0 hTs hl hi h.a1
  obtain ⟨k1, k2⟩ := user1_keep C s (i : Int)
  have hdr : zs.drop q = (i : Int) :: zs.drop (q + 1) := by
    have hql := (List.getElem?_eq_some_iff.1 hq).1
    rw [List.drop_eq_getElem_cons hql]
    rw [List.getElem?_eq_getElem hql] at hq
    injection hq with hq
    rw [hq]
  refine ⟨hsp, hkp, ⟨h1.len, h1.ex, h1.up, h1.le, fun k z hz => ?_⟩, h.a0, Nat.le_trans h.a1 (Lo.longer s i), fun pos p q1 q2 q3 => ?_, k2 _ h.two⟩
  · rcases h1.eq k z hz with e | e | ⟨e, e2⟩
    · exact .inl e
    · exact .inr (.inl e)
    · refine .inr (.inr ?_)
      rw [hdr] at e
      rcases List.mem_cons.1 e with e | e
      · exact absurd (by omega) e2
      · exact e
  · rw [k1 pos (by have := h.a1; omega)] at q3
    exact h.hd pos p q1 q2 q3
theorem LS.done {zs : List Int} {q : Nat} (h : LS w0 w wx S C T Ts H tr us US v0 a tv s (fun k => (k : Int) ∈ zs.drop q)) (hq : zs.length ≤ q) : LS w0 w wx S C T Ts H tr us US v0 a tv s (fun _ => False) :=
  ⟨h.sp, h.kp, ⟨h.lo.len, h.lo.ex, h.lo.up, h.lo.le, fun i z hz => by
    rcases h.lo.eq i z hz with e | e | e
    · exact .inl e
    · exact .inr (.inl e)
    · rw [List.drop_eq_nil_of_le hq] at e; simp at e⟩, h.a0, h.a1, h.hd, h.two⟩
end
/-- What loosen leaves. -/
def LoosePost (w0 w w' : World) (S : SpB) (_C : Circ) (T Ts : List Int) (H : List Bool) (tr : List (Int × Int)) (us : List Value) (US : List (List Int)) : Prop :=
  KP S.gv w w' ∧ ∃ (tv' : Value) (T' : List Int) (tr' : List (Int × Int)), SP w0 w' S tv' T' H tr' us US ∧ Trl T' tr' ∧
    (((∀ v : Nat, H.getD v false = true → T.getD v 0 = Ts.getD v 0) ∧ T' = Ts ∧ ∃ new, tr' = tr ++ new ∧ Ch T Ts new) ∨ ((∃ v : Nat, H.getD v false = true ∧ T.getD v 0 ≠ Ts.getD v 0) ∧ T' = T ∧ tr' = tr))
section
variable {w0 w wx : World} {S : SpB} {C : Circ} {T : List Int} {H : List Bool} {tr : List (Int × Int)} {us : List Value} {US : List (List Int)} {v0 a : Nat} {tv : Value} {s : List Int × List (Int × Int)} {O L I : List Int} {j : Nat} {zj : Tri}
theorem LS.fin (h0 : (checkR C).2 = 0) (hO : IsOrd C O) (hL : L.length = C.latches.length) (hI : I.length = C.inputs.length) (hj : C.latches[j]? = some zj) (hv : (zj.1 / 2).toNat = v0) (hT : T = val3 C O L I) (htr : Trl T tr)
    (h : LS w0 w wx S C T (val3 C O (L.set j 2) I) H tr us US v0 s.2.length tv s (fun _ => False)) : LoosePost w0 w wx S C T (val3 C O (L.set j 2) I) H tr us US := by
  have hB := valB (O := O) (L := L) (I := I) h0 hO hL hI
  rw [← hT] at hB
  have hTs := valB (O := O) (L := L.set j 2) (I := I) h0 hO (by simp [hL]) hI
  have he := h.lo.fin h0 hO hB hL hI hTs hj (by rw [hv]; exact h.two)
  obtain ⟨hc1, hc2⟩ := h.lo.ch
  refine ⟨h.kp, tv, s.1, s.2, h.sp, h.lo.trl htr, .inl ⟨fun v hh => ?_, he, _, hc2, by rw [← he]; exact hc1⟩⟩
  rw [← he]
  obtain ⟨new, e1, e2, e3, e4⟩ := h.lo.ex
  rcases e4 v with q | q
  · exact q.symm
  · exfalso
    obtain ⟨k, hk⟩ := List.getElem?_of_mem q
    have hkl := (List.getElem?_eq_some_iff.1 hk).1
    have h9 := h.hd (tr.length + k) _ (by omega) (by rw [e1, List.length_append]; omega) (by rw [e1, List.getElem?_append_right (by omega), Nat.add_sub_cancel_left]; exact hk)
    simp only [Int.toNat_natCast] at h9
    rw [h9] at hh
    cases hh
theorem LS.hit {Ts : List Int} {w1 : World} {tv' : Value} (h : LS w0 w wx S C T Ts H tr us US v0 a tv s (fun _ => False)) (htr : Trl T tr) {p : Int × Int} (hp : s.2[a]? = some p) {v : Nat} (hv : p.1 = (v : Int)) (hh : H.getD v false = true)
    (hsp : SP w0 w1 S tv' (back1 s.1 (s.2.drop tr.length)) H (s.2.take tr.length) us US) (hkp : KP S.gv w w1) : LoosePost w0 w w1 S C T Ts H tr us US := by
  rw [h.lo.back] at hsp
  obtain ⟨hc1, hc2⟩ := h.lo.ch
  have ht : s.2.take tr.length = tr := by rw [hc2, List.take_left']; rfl
  rw [ht] at hsp
  have hpm : p ∈ s.2.drop tr.length := by
    have h9 : (s.2.drop tr.length)[a - tr.length]? = some p := by rw [List.getElem?_drop, show tr.length + (a - tr.length) = a by have := h.a0; omega]; exact hp
    exact List.mem_of_getElem? h9
  obtain ⟨u, q1, q2, q3, q4, q5⟩ := hc1.at_ p hpm
  have : u = v := by omega
  subst this
  refine ⟨hkp, tv', T, tr, hsp, htr, .inr ⟨⟨u, hh, fun e => ?_⟩, rfl, rfl⟩⟩
  have h8 := h.lo.up u
  rw [q5, ← e, ← q3] at h8
  rcases h8 with e8 | e8
  · exact q4 e8.symm
  · exact q4 e8
end

set_option maxHeartbeats 8000000 in
set_option maxRecDepth 100000 in
theorem sLoosen_any (w0 w : World) (S : SpB) (tv : Value) (C : Circ) (O L I T : List Int) (H : List Bool) (tr : List (Int × Int)) (us : List Value) (US : List (List Int)) (j : Nat) (zj : Tri) (v0 : Nat) (h : SP w0 w S tv T H tr us US) (h0 : (checkR C).2 = 0) (hO : IsOrd C O)
    (hL : L.length = C.latches.length) (hI : I.length = C.inputs.length) (h3L : Row3 L) (h3I : Row3 I) (hT : T = val3 C O L I) (htr : Trl T tr) (hj : C.latches[j]? = some zj) (hv : (zj.1 / 2).toNat = v0) (hUS : ∀ v, v < S.n → IsUsers C v (US.getD v []))
    (hst : ∀ wz, w0.grownBy wz (some S.gv) → RowE 3 encT wz S.aV C.ands ∧ TabC wz) :
    Calls Tryz.prog 36 #[.pointer (some ⟨S.bs, 0, none⟩), .int .i64 v0] w fun e w' => e = .returned (.tuple #[]) ∧ LoosePost w0 w w' S C T (val3 C O (L.set j 2) I) H tr us US := by
  have hrt := right_of h0
  have hTl : T.length = C.max.toNat + 1 := by rw [hT, val3_len]
  have hSn : S.n = C.max.toNat + 1 := by rw [← h.tl, hTl]
  have hm1 := hrt.m1
  have hm0 := hrt.m0
  have hSm : S.n ≤ 20000 := by omega
  have h3T : Row3 T := by rw [hT]; exact row3_val h3L h3I
  have hVT : v0 < T.length := by rw [hTl, ← hv]; exact latch_lt h0 (List.mem_of_getElem? hj)
  have hBT := valB (O := O) (L := L) (I := I) h0 hO hL hI
  rw [← hT] at hBT
  have hBS := valB (O := O) (L := L.set j 2) (I := I) h0 hO (by simp [hL]) hI
  have hput := sPut_any w0 w S tv T H tr us US v0 h hVT hSm (by have := htr.le; rw [h.tl] at this; exact this)
  have hlo := Lo.start (tr0 := tr) h0 hO hBT hL hI hBS hj
  rw [hv] at hlo
  have HFIN := Lib.hid (fun (wx : World) (tv' : Value) (s : List Int × List (Int × Int)) (hx : LS w0 w wx S C T (val3 C O (L.set j 2) I) H tr us US v0 s.2.length tv' s (fun _ => False)) => LS.fin h0 hO hL hI hj hv hT htr hx)
  have HBS := Lib.hid hBS.toValA
  obtain ⟨Ts, hTs⟩ : ∃ Ts, val3 C O (L.set j 2) I = Ts := ⟨_, rfl⟩
  rw [hTs] at hlo HFIN HBS
  rw [hTs]
  have HPUT := Lib.hid hput
  have HLO := Lib.hid hlo
  have HTR := Lib.hid htr
  have HUS := Lib.hid hUS
  have HST := Lib.hid hst
  have HSM := Lib.hid hSm
  have H3 := Lib.hid h3T
  have HTL := Lib.hid (And.intro hTl hSn)
  have HRT := Lib.hid hrt
  have H0 := Lib.hid h0
  have HVT := Lib.hid hVT
  have HSP := Lib.hid h
  obtain ⟨tA, tc, ht⟩ := own_slice_k h.trail
  subst ht
  obtain ⟨bs, gv, gh, n, aV, uV⟩ := S
  obtain ⟨c0, c1, c2, c3, c4⟩ := h.sp_cells
  have hbl := h.box.lt
  obtain ⟨ub, uc, hu⟩ : ∃ ub uc, uV = .slice (some ⟨ub, 0, none⟩) us.length uc := by
    rcases h.users.own.2 with ⟨_, e0⟩ | ⟨g, cap, cur, e, _⟩
    · exfalso
      have h1 := h.users.ul
      have h2 := h.ul
      simp only at h2
      simp only at hSn
      omega
    · exact ⟨g, cap, e⟩
  obtain ⟨aA, ac, ha, _, hac, _⟩ := (hst w h.grown).1
  simp only at c0 c1 c2 c3 c4 hbl hu ha
  subst hu ha
  clear h h0 hO hL hI h3L h3I hT htr hj hv hUS hst hrt hTl hSn hm1 hm0 hSm h3T hVT hBT hBS hput hlo hTs hac
  generalize hnA : C.ands.length = nA at *
  generalize hnU : us.length = nU at *
  have HNA := Lib.hid hnA
  have HNU := Lib.hid hnU
  clear hnA hnU
  go_enter Tryz.func36, Tryz.ntmps36
  go_upto_region 2 with (go_at_call 67; refine HPUT.out.mono ?_; rintro e w1 ⟨rfl, hk1, tv1, hs1⟩; have HLS := Lib.hid (show LS w0 w w1 ⟨bs, gv, gh, n, .slice aA nA ac, .slice (some ⟨ub, 0, none⟩) nU uc⟩ C T Ts H tr us US v0 tr.length tv1 (put1 (T, tr) v0) (fun _ => False) from ⟨hs1, hk1, HLO.out, Nat.le_refl _, by unfold put1; split <;> simp, fun pos p q1 q2 _ => absurd q2 (by omega), put1_two HVT.out⟩); clear hk1 hs1)
  go_wp2
  clear c0 c1 c2 c3 c4 hbl
  go_loopg [5] (n - tr.length) (fun k iv wx => ∃ (a : Nat) (tv' : Value) (s : List Int × List (Int × Int)), iv = .int .i64 a ∧ k = n - a ∧ LS w0 w wx ⟨bs, gv, gh, n, .slice aA nA ac, .slice (some ⟨ub, 0, none⟩) nU uc⟩ C T Ts H tr us US v0 a tv' s (fun _ => False))
  case atStart => exact ⟨tr.length, tv1, _, rfl, rfl, HLS.out⟩
  case round =>
    obtain ⟨a, tv2, s, rfl, hgk, hls⟩ := hrel
    subst hgk
    clear HLS HPUT
    have HLS := Lib.hid hls
    have hlen := hls.len HTR.out
    obtain ⟨tA2, tc2, ht2⟩ := own_slice_k hls.sp.trail
    subst ht2
    obtain ⟨d0, d1, d2, d3, d4⟩ := hls.sp.sp_cells
    have hbl := hls.sp.box.lt
    simp only at d0 d1 d2 d3 d4 hbl hlen
    obtain ⟨lt, hlt9⟩ : ∃ k, s.2.length = k := ⟨_, rfl⟩
    have HLT := Lib.hid hlt9
    rw [hlt9] at d4 hlen
    have ha1 : a ≤ lt := by have := hls.a1; omega
    have hn2 : n ≤ 20000 := HSM.out
    clear hlt9
    by_cases hlt : a < lt
    · obtain ⟨p, hp⟩ : ∃ p, s.2[a]? = some p := ⟨_, List.getElem?_eq_getElem (by rw [HLT.out]; exact hlt)⟩
      obtain ⟨v, hpv, hvl, _⟩ := (hls.lo.trl HTR.out).at_ p (List.mem_of_getElem? hp)
      have hvn : v < n := by have := hls.sp.tl; simp only at this; omega
      obtain ⟨A', c', e', _, _, hrun⟩ := own_rowe lenP hls.sp.trail
      injection e' with e1 e2 e3
      clear e2
      subst e1 e3
      obtain ⟨b, off, e, hbw, hcell⟩ := hrun a p hp
      subst e
      have g0 := hcell 0 _ rfl
      rw [show off + (a * 2 + 0) = off + a * 2 by omega, hpv] at g0
      have hHl : v < H.length := by have := hls.sp.hl; simp only at this; omega
      have g1 := Tab.cell hls.sp.held (getD_bool hHl)
      simp only at g1
      have hal : (a : Int) < (lt : Int) := by omega
      have hal0 : (0 : Int) ≤ (a : Int) := by omega
      have hvl2 : (v : Int) < (n : Int) := by omega
      have hvl0 : (0 : Int) ≤ (v : Int) := by omega
      have HPV := Lib.hid (And.intro hp hpv)
      clear hcell hrun hls hvl
      cases hH : H.getD v false
      · rw [hH] at g1
        obtain ⟨u, hu⟩ : ∃ u, us[v]? = some u := ⟨_, List.getElem?_eq_getElem (by have h1 := HLS.out.sp.users.ul; have h2 := HLS.out.sp.ul; simp only at h2; omega)⟩
        obtain ⟨zs, hzs⟩ : ∃ zs, US[v]? = some zs := ⟨_, List.getElem?_eq_getElem (by have h2 := HLS.out.sp.ul; simp only at h2; omega)⟩
        have hUv := HUS.out v hvn
        rw [show US.getD v [] = zs by rw [List.getD_eq_getElem?_getD, hzs]; rfl] at hUv
        have HUV := Lib.hid hUv
        have HUU := Lib.hid (And.intro hu hzs)
        obtain ⟨zA, zc, hze⟩ := own_slice_k (HLS.out.sp.users.each v u zs hu hzs)
        subst hze
        have HREAD : Hid (∀ wz tv' T' tr', SP w0 wz ⟨bs, gv, gh, n, .slice aA nA ac, .slice (some ⟨ub, 0, none⟩) nU uc⟩ tv' T' H tr' us US → wz.cell? ⟨bs, 0, none⟩ = some (.slice aA nA ac) ∧ wz.cell? ⟨bs, 2, none⟩ = some (.slice (some ⟨gv, 0, none⟩) n n) ∧ RowE 1 encI wz (.slice zA zs.length zc) zs) := Lib.hid (fun wz tv' T' tr' hx => by
          obtain ⟨x0, _, x2, _, _⟩ := hx.sp_cells
          have h9 := own_rowe lenI (hx.users.each v _ zs HUU.out.1 HUU.out.2)
          exact ⟨x0, x2, h9⟩)
        have hul : wr.cell? ⟨ub, v, none⟩ = some (.slice zA zs.length zc) := by
          obtain ⟨A', c', e', _, _, hrun⟩ := own_rowe (enc := encV) lenV (zs := us) (by rw [flat_vals]; exact HLS.out.sp.users.own)
          injection e' with e1 e2 e3
          obtain ⟨b', off', e, _, hcell⟩ := hrun v _ HUU.out.1
          rw [e] at e1
          injection e1 with e1
          injection e1 with e1 e4
          subst e1 e4
          have := hcell 0 _ rfl
          simpa using this
        have hvU : (v : Int) < (nU : Int) := by have h1 := HLS.out.sp.users.ul; have h2 := HLS.out.sp.ul; have h3 := HNU.out; simp only at h2; omega
        obtain ⟨zl, hzl⟩ : ∃ k, zs.length = k := ⟨_, rfl⟩
        rw [hzl] at hul HREAD
        have HZL := Lib.hid hzl
        have HNX := Lib.hid (HLS.out.next HPV.out.1 HPV.out.2 HUV.out hH)
        clear hu hzs hUv hzl hH
        go_wp2
        go_loopg [54] zl (fun k iv wx => ∃ (q : Nat) (tv' : Value) (s' : List Int × List (Int × Int)), q ≤ zl ∧ iv = .int .i64 q ∧ k = zl - q ∧ LS w0 w wx ⟨bs, gv, gh, n, .slice aA nA ac, .slice (some ⟨ub, 0, none⟩) nU uc⟩ C T Ts H tr us US v0 (a + 1) tv' s' (fun k => (k : Int) ∈ zs.drop q))
        case atStart => exact ⟨0, _, s, Nat.zero_le _, rfl, rfl, HNX.out⟩
        case round =>
          obtain ⟨q, tv3, s3, hq, rfl, hgk, hls⟩ := hrel
          subst hgk
          clear d0 d1 d2 d3 d4 hbl HNX g0 g1 hul
          have HL3 := Lib.hid hls
          obtain ⟨x0, x2, hzr⟩ := HREAD.out _ _ _ _ hls.sp
          have hbl := hls.sp.box.lt
          simp only at hbl
          clear hls
          by_cases hql : q < zl
          · obtain ⟨x, hx⟩ : ∃ x, zs[q]? = some x := ⟨_, List.getElem?_eq_getElem (by rw [HZL.out]; exact hql)⟩
            obtain ⟨i, z, hxi, hz, _⟩ := (HUV.out x).1 (List.mem_of_getElem? hx)
            subst hxi
            have hi : i < nA := by have := (List.getElem?_eq_some_iff.1 hz).1; rw [HNA.out] at this; exact this
            obtain ⟨A', c', e', hz1, hz2, hrun⟩ := hzr
            have hzm : zl ≤ 9223372036854775807 := by have h9 := HZL.out; unfold maxLen at hz2; omega
            clear hz1 hz2
            injection e' with e1 e2 e3
            clear e2
            subst e1 e3
            obtain ⟨zb, zoff, e, _, hcell⟩ := hrun q _ hx
            subst e
            have k0 := hcell 0 _ rfl
            simp only [Nat.mul_one, Nat.add_zero] at k0
            obtain ⟨hra, htc⟩ := HST.out wr HL3.out.sp.grown
            obtain ⟨A', c', e', _, _, hrun2⟩ := hra
            injection e' with e1 e2 e3
            clear e2
            subst e1 e3
            obtain ⟨ab, aoff, e, _, hcell2⟩ := hrun2 i z hz
            subst e
            have HZ := Lib.hid hz
            have HXQ := Lib.hid hx
            have hza := HRT.out.a z (List.mem_of_getElem? hz)
            unfold LitOk at hza
            have HZA := Lib.hid hza
            have hg9 : gv3 s3.1 z = gv3 s3.1 z := rfl
            obtain ⟨z0, z1, z2⟩ := z
            have m0 := hcell2 0 _ rfl
            have m1 := hcell2 1 _ rfl
            have m2 := hcell2 2 _ rfl
            simp only [Nat.add_zero, ← Nat.add_assoc] at m0 m1 m2
            have hzo0 : 0 ≤ z0 / 2 := by have := hza.1; simp only at this; omega
            have hz00 : 0 ≤ z0 := by have := hza.1; simp only at this; omega
            have hzo := tdiv_nn (b := 2) hz00
            have hzw : IntKind.i64.wrap (z0 / 2) = z0 / 2 := by have h1 := hza.1; have h2 := HRT.out.m1; simp only at h1; simp [IntKind.wrap, IntKind.bits, IntKind.signed]; omega
            have hqi : (q : Int) < (zl : Int) := by omega
            have hqi0 : (0 : Int) ≤ (q : Int) := by omega
            have hii : (i : Int) < (nA : Int) := by omega
            have hii0 : (0 : Int) ≤ (i : Int) := by omega
            have hbA : Below wr.heap.size wr (wr.alloc (.cells #[.int .i64 z0, .int .i64 z1, .int .i64 z2] 45)) := (Below.refl _ _).alloc (Nat.le_refl _) _
            have HBA := Lib.hid hbA
            have HLA := Lib.hid (HL3.out.on hbA)
            obtain ⟨gq, hgq⟩ : ∃ gq, gv3 s3.1 (z0, z1, z2) = gq := ⟨_, rfl⟩
            have HCL : Hid (∀ wz, Below (wr.alloc (.cells #[.int .i64 z0, .int .i64 z1, .int .i64 z2] 45)).heap.size (wr.alloc (.cells #[.int .i64 z0, .int .i64 z1, .int .i64 z2] 45)) wz → (wz.cell? ⟨bs, 2, none⟩ = some (.slice (some ⟨gv, 0, none⟩) n n) ∧ wz.cell? ⟨wr.heap.size, 0, none⟩ = some (.int .i64 z0) ∧ wz.cell? ⟨wr.heap.size, 1, none⟩ = some (.int .i64 z1) ∧ wz.cell? ⟨wr.heap.size, 2, none⟩ = some (.int .i64 z2)) ∧ Calls Tryz.prog 63 #[.slice (some ⟨gv, 0, none⟩) n n, .agg #[.int .i64 z0, .int .i64 z1, .int .i64 z2]] wz fun e w' => e = .returned (.int .i64 gq) ∧ Below wz.heap.size wz w') := Lib.hid (fun wz hb => by
              have hx := HLA.out.on hb
              obtain ⟨x0, x2, _⟩ := HREAD.out _ _ _ _ hx.sp
              have hbk := (Blk.new wr 45 #[.int .i64 z0, .int .i64 z1, .int .i64 z2]).below hb (by simp)
              have hvr := nums_row hx.sp.val (by have h1 := hx.sp.tl; have h2 := HSM.out; (try simp only at h1); (try simp only at h2); rw [h1]; unfold maxLen; omega)
              have htl := hx.sp.tl
              simp only at htl hvr
              rw [htl] at hvr
              have hn1 : (n : Int) = C.max.toNat + 1 := by have := HTL.out.2; (try simp only at this); omega
              have hm := HRT.out.m1
              have hm0 := HRT.out.m0
              have hq1 := HZA.out.2.1
              have hq2 := HZA.out.2.2
              simp only at hq1 hq2
              have hga := gateOf_any wz _ s3.1 (z0, z1, z2) (HST.out wz hx.sp.grown).2 hvr (hx.lo.row3 H3.out) ⟨hq1.1, by show z1 / 2 < _; rw [htl]; omega, by show z1 ≤ _; omega⟩ ⟨hq2.1, by show z2 / 2 < _; rw [htl]; omega, by show z2 ≤ _; omega⟩
              rw [hgq] at hga
              exact ⟨⟨x2, hbk.cell 0, hbk.cell 1, hbk.cell 2⟩, hga⟩)
            have HGQ := Lib.hid hgq
            have HOL : Hid ((z0 / 2).toNat < s3.1.length) := Lib.hid (by have h1 := HL3.out.sp.tl; have h2 := HTL.out.2; have h3 := HZA.out.1; (try simp only at h1); (try simp only at h2); (try simp only at h3); omega)
            clear hx hz htc hrun hrun2 hcell hcell2 hza hg9 hbA hgq
            go_upto_region 12 with (fail)
            refine wp_region_quiet (C := fun wz => Below (wr.alloc (.cells #[.int .i64 z0, .int .i64 z1, .int .i64 z2] 45)).heap.size (wr.alloc (.cells #[.int .i64 z0, .int .i64 z1, .int .i64 z2] 45)) wz) (by kernel_rfl) (by kernel_rfl) (Below.refl _ _).drew ?_
            simp only
            repeat
              first
                | go_big_quiet_skip
                | (refine wpQuiet_step (fun K hK => ?_)
                   rw [if_pos (by rfl)]
                   unfold Oper.quiet
                   apply Exists.intro
                   refine And.intro (fun wx hWx => ?_) (hK _ ?_)
                   · obtain ⟨⟨y0, y1, y2, y3⟩, hga⟩ := HCL.out wx hWx
                     first
                       | (go_simp; exact rfl)
                       | (go_simp; go_at_call 63; refine hga.mono ?_; rintro e w' ⟨rfl, hb'⟩; exact ⟨rfl, by have h9 := bt hWx (Nat.le_refl _) hb'; simpa using h9⟩)
                   clear hK K
                   try simp only [Act.put, List.setIfInBounds_toArray, List.set_cons_zero, List.set_cons_succ])
            refine wpQuiet_nil ?_
            intro w5 hw5
            have HL5 := Lib.hid (HLA.out.on hw5)
            have y3 := (HCL.out w5 hw5).1.2.1
            clear hw5
            by_cases hg2 : gq = 2
            · subst hg2
              have hpt := sPut_any w0 w5 _ tv3 s3.1 H s3.2 us US (z0 / 2).toNat HL5.out.sp HOL.out HSM.out (HL5.out.len HTR.out)
              rw [show (((z0 / 2).toNat : Nat) : Int) = z0 / 2 by omega] at hpt
              have HPT := Lib.hid hpt
              clear hpt
              go_wp2_with (go_at_call 67; refine HPT.out.mono ?_; rintro e w6 ⟨rfl, hk6, tv6, hs6⟩; have HS6 := Lib.hid hs6; have HK6 := Lib.hid (HL5.out.kp.trans hk6); clear hk6 hs6)
              go_roundg (zl - (q + 1))
              case measure => omega
              case rel =>
                refine ⟨q + 1, tv6, user1 C s3 (i : Int), by omega, by go_num, rfl, ?_⟩
                have hu1 : user1 C s3 (i : Int) = put1 s3 (z0 / 2).toNat := user1_yes HZ.out HGQ.out
                refine HL5.out.user H0.out HBS.out HTL.out.1 HXQ.out (by rw [HNA.out]; exact hi) ?_ HK6.out
                rw [hu1]; exact HS6.out
            · have hq3 : (gq == 2) = false := by simpa using hg2
              have HG2 := Lib.hid hg2
              clear hg2
              go_wp2
              go_roundg (zl - (q + 1))
              case measure => omega
              case rel =>
                refine ⟨q + 1, tv3, user1 C s3 (i : Int), by omega, by go_num, rfl, ?_⟩
                have hu1 : user1 C s3 (i : Int) = s3 := user1_no HZ.out (by rw [HGQ.out]; exact HG2.out)
                refine HL5.out.user H0.out HBS.out HTL.out.1 HXQ.out (by rw [HNA.out]; exact hi) ?_ HL5.out.kp
                rw [hu1]; exact HL5.out.sp
          · have hdn := HL3.out.done (by rw [HZL.out]; omega)
            have HDN := Lib.hid hdn
            clear hdn hzr
            go_wp2
            go_roundg (n - (a + 1))
            case measure => omega
            case rel => exact ⟨a + 1, _, _, by go_num, rfl, HDN.out⟩
      · rw [hH] at g1
        have HHH := Lib.hid hH
        have hbk := sBack_any w0 wr ⟨bs, gv, gh, n, .slice aA nA ac, .slice (some ⟨ub, 0, none⟩) nU uc⟩ _ s.1 H s.2 us US tr.length HLS.out.sp (by have := HLS.out.a0; have := HLT.out; omega) HSM.out (HLS.out.len HTR.out) (fun p9 hp9 => by
          obtain ⟨u, q1, q2, _⟩ := (HLS.out.lo.trl HTR.out).at_ p9 hp9
          exact ⟨by omega, by omega⟩)
        have HBK := Lib.hid hbk
        clear hbk hH
        go_wp2_with (go_at_call 68; refine HBK.out.mono ?_; rintro e w6 ⟨rfl, hk6, tv6, hs6⟩; have HS6 := Lib.hid hs6; have HK6 := Lib.hid (HLS.out.kp.trans hk6); clear hk6 hs6)
        (try simp only [Exit.inBlock, Exit.then]); refine bodyPost_ret (results_none rfl _ _ _) rfl ?_
        exact ⟨rfl, HLS.out.hit HTR.out HPV.out.1 HPV.out.2 HHH.out HS6.out HK6.out⟩
    · have hae : a = s.2.length := by rw [HLT.out]; omega
      have hfn := HFIN.out wr _ s (by rw [← hae]; exact hls)
      have HFN := Lib.hid hfn
      clear hls hfn hae
      go_wp2
      go_end0
      exact ⟨rfl, HFN.out⟩
end Go.Proofs.YtbeaicmjohlboaaGreatDoor

namespace Go.Proofs.YtbeaicmjohlboaaGreatDoor
open Go.RowKit


section
variable {P : Program} {md : Region.Mode} {ops : Array Oper} {Q : Exit → Act → World → Prop} {S : World → Prop} {n : Nat}
/-- Whatever order is picked, and S holds behind each operation below n: those from n on come last. -/
def wpAnyT (P : Program) (md : Region.Mode) (ops : Array Oper) (Q : Exit → Act → World → Prop) (S : World → Prop) (n : Nat) : Nat → Array Bool → Act → World → Prop
  | 0, listed, a, w => Region.ready md ops listed = [] ∧ Q .normal a w
  | fuel + 1, listed, a, w =>
    (Region.ready md ops listed = [] → Q .normal a w) ∧
    ∀ i ∈ Region.ready md ops listed, wpOp P ops Q i (fun a' w' => (i < n → S w') ∧ wpAnyT P md ops Q S n fuel (listed.setIfInBounds i true) a' w') a w
theorem wpAny_of_T : ∀ (fuel : Nat) (listed : Array Bool) (a : Act) (w : World), wpAnyT P md ops Q S n fuel listed a w → wpAny P md ops Q fuel listed a w
  | 0, _, _, _, h => h
  | fuel + 1, _, _, _, h => ⟨h.1, fun i hi => wpOp_mono (fun a' w' h' => wpAny_of_T fuel _ a' w' h'.2) (h.2 i hi)⟩
theorem wpAnyT_first {i : Nat} {oi : Oper} {v : Value} (hi : ops[i]? = some oi) (hin : i < n) (hsel : ∀ (j : Nat) (o : Oper) cs b, ops[j]? = some o → o.op ≠ .select cs b)
    (hlast : ∀ (j : Nat) (oj : Oper), n ≤ j → ops[j]? = some oj → ∃ e ∈ oj.after, Region.binds md e = true ∧ e.on = i)
    (hQ : ∀ c a w, Q (.panic c) (a.put oi.dst v) w → Q (.panic c) a w) :
    ∀ (fuel : Nat) (listed : Array Bool) (a : Act) (w : World),
      (∀ j oj, ops[j]? = some oj → j ≠ i → listed.getD j true = false → (∀ e ∈ oj.after, Region.binds md e = true → e.on ≠ i) → oi.apart ops oj = true) →
      i ∈ Region.ready md ops listed → YieldsIf P ops S oi v a → S w →
      wpAnyT P md ops Q S n fuel (listed.setIfInBounds i true) (a.put oi.dst v) w → wpAnyT P md ops Q S n (fuel + 1) listed a w := by
  intro fuel
  induction fuel with
  | zero =>
    intro listed a w _ hr hy hS H
    refine ⟨fun h => (by rw [h] at hr; cases hr), fun j hj => ?_⟩
    by_cases hji : j = i
    · subst hji; exact hy.wpOp hi hS ⟨fun _ => hS, H⟩
    · have := ready_mono hj hji
      rw [H.1] at this
      cases this
  | succ fuel ih =>
    intro listed a w hfree hr hy hS H
    refine ⟨fun h => (by rw [h] at hr; cases hr), fun j hj => ?_⟩
    by_cases hji : j = i
    · subst hji; exact hy.wpOp hi hS ⟨fun _ => hS, H⟩
    · have h1 := H.2 j (ready_mono hj hji)
      obtain ⟨hjun, oj, hoj, hall⟩ := mem_ready.1 hj
      have hnot : ∀ e ∈ oj.after, Region.binds md e = true → e.on ≠ i := fun e he hb heq => by
        have h1 := hall e he hb
        have h0 := (mem_ready.1 hr).1
        rw [heq] at h1
        rcases Nat.lt_or_ge i listed.size with h' | h'
        · simp [h'] at h0 h1; rw [h0] at h1; cases h1
        · simp [Array.getElem?_eq_none h'] at h1
      have hjn : j < n := by
        rcases Nat.lt_or_ge j n with h9 | h9
        · exact h9
        · obtain ⟨e, he, hb, heq⟩ := hlast j oj h9 hoj
          exact absurd heq (hnot e he hb)
      have h2 := wpOp_putIf hoj (hfree j oj hoj hji hjun hnot) (fun cs b => hsel i oi cs b hi) (fun cs b => hsel j oj cs b hoj) hQ hy h1
      have hfree' : ∀ k ok, ops[k]? = some ok → k ≠ i → (listed.setIfInBounds j true).getD k true = false →
          (∀ e ∈ ok.after, Region.binds md e = true → e.on ≠ i) → oi.apart ops ok = true := fun k ok hk hki hun hno => by
        refine hfree k ok hk hki ?_ hno
        by_cases hjk : j = k
        · subst hjk; exact hjun
        · rw [getD_set_ne true hjk] at hun; exact hun
      refine wpOp_mono (fun a' w' h3 => ⟨h3.2.1, ih (listed.setIfInBounds j true) a' w' hfree' (ready_mono hr (Ne.symm hji)) h3.1 (h3.2.1 hjn) ?_⟩) h2
      rw [Array.setIfInBounds_comm _ _ hji]
      exact h3.2.2
def lastB (md : Region.Mode) (ops : Array Oper) (n i : Nat) : Bool := (List.range ops.size).all fun j => decide (j < n) || Region.waitsFor md ops j i
theorem lastB_spec {i : Nat} (h : lastB md ops n i = true) (j : Nat) (oj : Oper) (hj : n ≤ j) (ho : ops[j]? = some oj) : ∃ e ∈ oj.after, Region.binds md e = true ∧ e.on = i := by
  have hjl := (Array.getElem?_eq_some_iff.1 ho).1
  have := List.all_eq_true.1 h j (List.mem_range.2 hjl)
  rw [Bool.or_eq_true, decide_eq_true_eq] at this
  rcases this with h1 | h1
  · omega
  · obtain ⟨o, ho2, e, he, hb, heq⟩ := Region.waitsFor_spec h1
    rw [ho] at ho2
    injection ho2 with ho2
    subst ho2
    exact ⟨e, he, hb, heq⟩
theorem wpAnyT_take {i : Nat} {oi : Oper} {v : Value} {fuel : Nat} {listed : Array Bool} {a : Act} {w : World} (hi : ops[i]? = some oi)
    (hc : (decide (i < n) && Region.noSelect ops && Region.free md ops listed i && (Region.ready md ops listed).contains i && lastB md ops n i) = true)
    (hQ : ∀ c a w, Q (.panic c) (a.put oi.dst v) w → Q (.panic c) a w) (hw : Region.wanted oi (yielded ops a.tmps) = true) (hS : S w) (hy : ∀ w', S w' → (execOp a.eval oi).run P w' = .ok (.value v) w')
    (h : wpAnyT P md ops Q S n fuel (listed.setIfInBounds i true) (a.put oi.dst v) w) : wpAnyT P md ops Q S n (fuel + 1) listed a w := by
  simp only [Bool.and_eq_true, decide_eq_true_eq] at hc
  obtain ⟨⟨⟨⟨c1, c2⟩, c3⟩, c4⟩, c5⟩ := hc
  exact wpAnyT_first hi c1 (Region.noSelect_spec c2) (lastB_spec c5) hQ fuel listed a w (Region.free_spec hi c3) (by simpa using c4) (.inl ⟨hw, hy⟩) hS h
theorem wpAnyT_one {i : Nat} {o : Oper} {fuel : Nat} {listed : Array Bool} {a : Act} {w : World} (ho : ops[i]? = some o) (hr : Region.ready md ops listed = [i])
    (h : ∀ K' : Act → World → Prop, Shut (∀ a w, (i < n → S w) → wpAnyT P md ops Q S n fuel (listed.setIfInBounds i true) a w → K' a w) → if Region.wanted o (yielded ops a.tmps) = true then Oper.wp P o a w K' Q else K' (a.put o.dst undef) w) : wpAnyT P md ops Q S n (fuel + 1) listed a w := by
  refine ⟨fun h0 => (by rw [hr] at h0; cases h0), fun j hj => ?_⟩
  rw [hr] at hj
  have : j = i := by simpa using hj
  subst this
  exact wpOp_step ho (fun K' hK => h K' (fun a w hS hW => hK a w ⟨hS, hW⟩))
theorem wpAnyT_done {listed : Array Bool} {fuel : Nat} {a : Act} {w : World} (hr : Region.ready md ops listed = []) (h : Q .normal a w) : wpAnyT P md ops Q S n fuel listed a w := by
  cases fuel with
  | zero => exact ⟨hr, h⟩
  | succ k => exact ⟨fun _ => h, fun i hi => by rw [hr] at hi; cases hi⟩
theorem wp_region_T {id : Nat} {a : Act} {w : World} (hm : P.follows .mixedOrders = true) (S : World → Prop) (n : Nat) (h : wpAnyT P .any ops Q S n ops.size (Array.replicate ops.size false) a w.drew) : (Code.region id ops true).wp P Q a w :=
  wp_region_any hm (wpAny_of_T _ _ _ _ h)
end

def addU (U : List (List Int)) (v : Nat) (i : Int) : List (List Int) := U.set v (U.getD v [] ++ [i])
/-- Of each variable the gates that use it, of the first k gates. -/
def usersN (C : Circ) (n : Nat) : Nat → List (List Int)
  | 0 => List.replicate n []
  | k + 1 => addU (addU (usersN C n k) ((C.ands.getD k (0, 0, 0)).2.1 / 2).toNat (k : Int)) ((C.ands.getD k (0, 0, 0)).2.2 / 2).toNat (k : Int)
theorem addU_of {U : List (List Int)} {v : Nat} {y : List Int} (h : U[v]? = some y) (i : Int) : addU U v i = U.set v (y ++ [i]) := by unfold addU; rw [List.getD_eq_getElem?_getD, h]; rfl
theorem addU_len (U : List (List Int)) (v : Nat) (i : Int) : (addU U v i).length = U.length := by simp [addU]
theorem usersN_len (C : Circ) (n : Nat) : ∀ k, (usersN C n k).length = n
  | 0 => by simp [usersN]
  | k + 1 => by unfold usersN; rw [addU_len, addU_len, usersN_len C n k]
theorem addU_get {U : List (List Int)} {v u : Nat} {i : Int} (hv : v < U.length) : (addU U v i).getD u [] = if v = u then U.getD u [] ++ [i] else U.getD u [] := by
  unfold addU
  by_cases e : v = u
  · subst e
    rw [if_pos rfl]
    simp [List.getD_eq_getElem?_getD, hv]
  · rw [if_neg e]
    simp [List.getD_eq_getElem?_getD, e]
theorem usersN_mem {C : Circ} {n : Nat} (hr : ∀ z ∈ C.ands, (z.2.1 / 2).toNat < n ∧ (z.2.2 / 2).toNat < n) : ∀ (k : Nat), k ≤ C.ands.length → ∀ v, v < n → ∀ x : Int, x ∈ (usersN C n k).getD v [] ↔ ∃ (i : Nat) (z : Tri), i < k ∧ x = (i : Int) ∧ C.ands[i]? = some z ∧ ((z.2.1 / 2).toNat = v ∨ (z.2.2 / 2).toNat = v)
  | 0, _, v, hv, x => by
    simp only [usersN]
    rw [List.getD_eq_getElem?_getD, List.getElem?_replicate, if_pos hv]
    simp
  | k + 1, hk, v, hv, x => by
    have ih := usersN_mem hr k (by omega) v hv x
    obtain ⟨z, hz⟩ : ∃ z, C.ands[k]? = some z := ⟨_, List.getElem?_eq_getElem (by omega)⟩
    have hzD : C.ands.getD k (0, 0, 0) = z := by simp [List.getD_eq_getElem?_getD, hz]
    obtain ⟨r1, r2⟩ := hr z (List.mem_of_getElem? hz)
    unfold usersN
    rw [hzD, addU_get (by rw [addU_len, usersN_len]; exact r2), addU_get (by rw [usersN_len]; exact r1)]
    constructor
    · intro h
      have h2 : x ∈ (usersN C n k).getD v [] ∨ (x = (k : Int) ∧ ((z.2.1 / 2).toNat = v ∨ (z.2.2 / 2).toNat = v)) := by
        by_cases e2 : (z.2.2 / 2).toNat = v
        · rw [if_pos e2] at h
          rcases List.mem_append.1 h with h | h
          · by_cases e1 : (z.2.1 / 2).toNat = v
            · rw [if_pos e1] at h
              rcases List.mem_append.1 h with h | h
              · exact .inl h
              · exact .inr ⟨by simpa using h, .inl e1⟩
            · rw [if_neg e1] at h; exact .inl h
          · exact .inr ⟨by simpa using h, .inr e2⟩
        · rw [if_neg e2] at h
          by_cases e1 : (z.2.1 / 2).toNat = v
          · rw [if_pos e1] at h
            rcases List.mem_append.1 h with h | h
            · exact .inl h
            · exact .inr ⟨by simpa using h, .inl e1⟩
          · rw [if_neg e1] at h; exact .inl h
      rcases h2 with h2 | ⟨h2, h3⟩
      · obtain ⟨i, y, q1, q2⟩ := ih.1 h2
        exact ⟨i, y, by omega, q2⟩
      · exact ⟨k, z, by omega, h2, hz, h3⟩
    · rintro ⟨i, y, q1, q2, q3, q4⟩
      by_cases e : i = k
      · subst e
        rw [hz] at q3
        injection q3 with q3
        subst q3
        by_cases e2 : (z.2.2 / 2).toNat = v
        · rw [if_pos e2]; exact List.mem_append_right _ (by simp [q2])
        · rw [if_neg e2]
          have e1 := q4.resolve_right e2
          rw [if_pos e1]; exact List.mem_append_right _ (by simp [q2])
      · have h2 := ih.2 ⟨i, y, by omega, q2, q3, q4⟩
        have h3 : x ∈ (if (z.2.1 / 2).toNat = v then (usersN C n k).getD v [] ++ [(k : Int)] else (usersN C n k).getD v []) := by
          split
          · exact List.mem_append_left _ h2
          · exact h2
        split
        · exact List.mem_append_left _ h3
        · exact h3
theorem usersN_is {C : Circ} {n : Nat} (hr : ∀ z ∈ C.ands, (z.2.1 / 2).toNat < n ∧ (z.2.2 / 2).toNat < n) {v : Nat} (hv : v < n) : IsUsers C v ((usersN C n C.ands.length).getD v []) := fun x => by
  rw [usersN_mem hr _ (Nat.le_refl _) v hv x]
  constructor
  · rintro ⟨i, z, _, q⟩; exact ⟨i, z, q⟩
  · rintro ⟨i, z, q1, q2, q3⟩; exact ⟨i, z, (List.getElem?_eq_some_iff.1 q2).1, q1, q2, q3⟩
theorem addU_short (U : List (List Int)) (a : Nat) (i : Int) (v : Nat) : ((addU U a i).getD v []).length ≤ (U.getD v []).length + 1 := by
  rcases Nat.lt_or_ge a U.length with h | h
  · rw [addU_get h]; split <;> simp
  · unfold addU; rw [List.set_eq_of_length_le h]; omega
theorem usersN_short (C : Circ) (n : Nat) : ∀ (k v : Nat), ((usersN C n k).getD v []).length ≤ 2 * k
  | 0, v => by
    simp only [usersN]
    rw [List.getD_eq_getElem?_getD, List.getElem?_replicate]
    split <;> simp
  | k + 1, v => by
    have ih := usersN_short C n k v
    have one : ∀ (U : List (List Int)) (a : Nat) (i : Int), ((addU U a i).getD v []).length ≤ (U.getD v []).length + 1 := fun U a i => by
      rcases Nat.lt_or_ge a U.length with h | h
      · rw [addU_get h]; split <;> simp
      · unfold addU; rw [List.set_eq_of_length_le h]; omega
    unfold usersN
    have h1 := one (addU (usersN C n k) ((C.ands.getD k (0, 0, 0)).2.1 / 2).toNat (k : Int)) ((C.ands.getD k (0, 0, 0)).2.2 / 2).toNat (k : Int)
    have h2 := one (usersN C n k) ((C.ands.getD k (0, 0, 0)).2.1 / 2).toNat (k : Int)
    omega
/-- Where a new spread lies. -/
structure NB where
  bs : Nat
  gv : Nat
  gh : Nat
  gu : Nat
  n : Nat
  aV : Value
abbrev NB.cells (S : NB) : Array Value := #[S.aV, .slice (some ⟨S.gu, 0, none⟩) S.n S.n, .slice (some ⟨S.gv, 0, none⟩) S.n S.n, .slice (some ⟨S.gh, 0, none⟩) S.n S.n, .slice none 0 0]
structure NW (w0 wr : World) (S : NB) (cs : Array Value) (vs : List Value) (US : List (List Int)) : Prop where
  below : Below w0.heap.size w0 wr
  hgv : S.gv < w0.heap.size
  lo : w0.heap.size ≤ S.bs ∧ w0.heap.size ≤ S.gh ∧ w0.heap.size ≤ S.gu
  hi : S.bs < w0.heap.size + 4 ∧ S.gh < w0.heap.size + 4 ∧ S.gu < w0.heap.size + 4
  sz : w0.heap.size + 4 ≤ wr.heap.size
  ne : S.bs ≠ S.gu ∧ S.gh ≠ S.gu ∧ w0.heap.size ≠ S.gu
  cb : Blk wr w0.heap.size 29 cs
  held : Tab wr S.gh (List.replicate S.n false)
  box : Blk wr S.bs 55 S.cells
  us : Blk wr S.gu 22 vs.toArray
  vl : vs.length = S.n
  ul : US.length = S.n
  fam : Fam wr (w0.heap.size + 4) (vs.zip US)
section
variable {w0 wr : World} {S : NB} {cs : Array Value} {vs : List Value} {US : List (List Int)}
theorem NW.on {w1 : World} (h : NW w0 wr S cs vs US) (hb : Below wr.heap.size wr w1) : NW w0 w1 S cs vs US :=
  ⟨bt h.below (Nat.le_refl _) hb, h.hgv, h.lo, h.hi, Nat.le_trans h.sz hb.size, h.ne, h.cb.below hb h.cb.lt, Blk.below h.held hb (Blk.lt h.held), h.box.below hb h.box.lt, h.us.below hb h.us.lt, h.vl, h.ul, h.fam.keep (fun g _ hg => hb.block g hg)⟩
theorem NW.row (h : NW w0 wr S cs vs US) {v : Nat} {u : Value} {zs : List Int} (hu : vs[v]? = some u) (hz : US[v]? = some zs) : wr.ownsRow (w0.heap.size + 4) 3 1 u zs.length (zs.map (Value.int .i64)) :=
  h.fam.own (u, zs) (List.mem_of_getElem? (by rw [List.getElem?_zip_eq_some]; exact ⟨hu, hz⟩))
theorem NW.app {w3 : World} {v : Nat} {u v3 : Value} {zs : List Int} {i : Int} (h : NW w0 wr S cs vs US) (hu : vs[v]? = some u) (hz : US[v]? = some zs) (ho3 : w3.ownsRow (w0.heap.size + 4) 3 1 v3 (zs.length + 1) (zs.map (Value.int .i64) ++ [.int .i64 i]))
    (hg3 : wr.grownBy w3 u.ownBlock) (hat : v3.ownBlock = u.ownBlock ∨ v3.ownBlock = some wr.heap.size) :
    NW w0 (w3.setCell ⟨S.gu, v, none⟩ v3) S cs (vs.set v v3) (US.set v (zs ++ [i])) ∧ (∀ (k : Nat) (t : TypeId) (ar : Array Value), Blk wr k t ar → t ≠ 3 → Blk w3 k t ar ∧ (k ≠ S.gu → Blk (w3.setCell ⟨S.gu, v, none⟩ v3) k t ar)) := by
  have hrow := h.row hu hz
  have hbk : ∀ (k : Nat) (t : TypeId) (ar : Array Value), Blk wr k t ar → t ≠ 3 → Blk w3 k t ar := fun k t ar hb hne => hb.grown hg3 (fun e => own_blk_ne hrow hb (Ne.symm hne) e.symm)
  have hbs : ∀ (k : Nat) (t : TypeId) (ar : Array Value), Blk wr k t ar → t ≠ 3 → k ≠ S.gu → Blk (w3.setCell ⟨S.gu, v, none⟩ v3) k t ar := fun k t ar hb hne hk => Blk.far (hbk k t ar hb hne) (by simpa using hk) _
  obtain ⟨n1, n2, n3⟩ := h.ne
  have hus := Blk.set_ (hbk _ _ _ h.us (by decide)) v v3
  have hh : Tab (w3.setCell ⟨S.gu, v, none⟩ v3) S.gh (List.replicate S.n false) := hbs _ _ _ h.held (by decide) n2
  have hlo := h.lo
  refine ⟨⟨(h.below.grown hg3 h.below.size (fun k hk => by have := (hrow.lt k hk).1; omega)).setCell (by simp only; omega) _, h.hgv, h.lo, h.hi, by have h1 := h.sz; have h2 := hg3.size; simp; omega, h.ne, hbs _ _ _ h.cb (by decide) n3, hh, hbs _ _ _ h.box (by decide) n1, by simpa using hus, by simp [h.vl], by simp [h.ul], ?_⟩, fun k t ar hb hne => ⟨hbk k t ar hb hne, hbs k t ar hb hne⟩⟩
  rw [zip_set]
  refine h.fam.upd (v := u) (l := zs) (by rw [List.getElem?_zip_eq_some]; exact ⟨hu, hz⟩) (fun g hg hl hne => ?_) ?_ ?_
  · refine (Below.heap_setCell _ _ _ _ (by have := h.hi; simp only; omega)).trans (hg3.block g hl (fun e => hne e))
  · have h9 : w3.ownsRow (w0.heap.size + 4) 3 1 v3 (zs ++ [i]).length ((zs ++ [i]).map (Value.int .i64)) := by simpa using ho3
    have hb3 := hbk _ _ _ h.us (by decide)
    exact own_setQ h9 _ _ (fun g hg e => own_blk_ne h9 hb3 (by decide) (by rw [hg]; exact congrArg some e))
  · rcases hat with e | e
    · exact .inl e
    · exact .inr ⟨_, e, Nat.le_refl _⟩
theorem NW.sp {T : List Int} (h : NW w0 wr S cs vs US) (hT : Nums w0 S.gv T) (hl : T.length = S.n) (hn : S.n ≤ 20000) : SP w0 wr ⟨S.bs, S.gv, S.gh, S.n, S.aV, .slice (some ⟨S.gu, 0, none⟩) S.n S.n⟩ (.slice none 0 0) T (List.replicate S.n false) [] vs US := by
  refine ⟨⟨h.below.os, h.below.tape, h.below.output, h.below.size, fun k hk _ => h.below.block k hk⟩, h.hgv, h.lo.1, h.lo.2.1, hl, by simp, h.ul, Blk.below hT h.below (Blk.lt hT), h.held, h.box, World.ownsRow_nil _ _ _ _, ⟨by rw [h.vl, h.ul], ?_, fun i u zs hu hz => ?_⟩⟩
  · rw [h.vl]
    exact ⟨by rw [h.vl]; simp, .inr ⟨S.gu, S.n, _, rfl, h.lo.2.2, h.us, Nat.le_refl _, by unfold maxLen; omega, by simp [h.vl], by simp [← h.vl]⟩⟩
  · rw [flat_ints]
    exact own_le (h.row hu hz) (by omega)
end

set_option maxHeartbeats 8000000 in
set_option maxRecDepth 100000 in
theorem newSpread_any (w : World) (V : CV) (C : Circ) (gv : Nat) (T : List Int) (h : C.In w V) (hrt : Right C) (hT : Nums w gv T) (hl : T.length = C.max.toNat + 1) :
    Calls Tryz.prog 17 #[V.val C.max, .slice (some ⟨gv, 0, none⟩) (C.max.toNat + 1) (C.max.toNat + 1)] w fun e w' => ∃ (bs gh : Nat) (uV : Value) (us : List Value), e = .returned (.pointer (some ⟨bs, 0, none⟩)) ∧ Below w.heap.size w w' ∧
      SP w w' ⟨bs, gv, gh, C.max.toNat + 1, V.a, uV⟩ (.slice none 0 0) T (List.replicate (C.max.toNat + 1) false) [] us (usersN C (C.max.toNat + 1) C.ands.length) := by
  obtain ⟨n, hn⟩ : ∃ n, C.max.toNat + 1 = n := ⟨_, rfl⟩
  have hm0 := hrt.m0
  have hm1 := hrt.m1
  have hna := hrt.na
  have hn1 : n ≤ 20000 := by omega
  have hmk1 := make_rows n (by omega)
  have hmk2 := make_bools n (by omega)
  have HRT := Lib.hid hrt
  have HNM : Hid ((n : Int) = C.max + 1) := Lib.hid (by omega)
  rw [hn] at hl ⊢
  have HT := Lib.hid (And.intro hT hl)
  have hgv := Blk.lt hT
  obtain ⟨AA, cA, eA, _, _, rA⟩ := h.a
  have HRA := Lib.hid rA
  obtain ⟨Vi, Vl, Vo, Vb, Vc, Vj, Vf, Va, Vs, Vt⟩ := V
  simp only at eA
  subst eA
  obtain ⟨i0, hi0, hz0, hz1, hz2⟩ := info_of2 infoI2
  have HI0 := Lib.hid (And.intro hi0 (And.intro hz0 (And.intro hz1 hz2)))
  obtain ⟨m, hmm⟩ : ∃ m, C.max = m := ⟨_, rfl⟩
  obtain ⟨nA, hnA⟩ : ∃ k, C.ands.length = k := ⟨_, rfl⟩
  rw [hmm, hnA]
  rw [hnA] at hna
  have HNA := Lib.hid hnA
  have HNW0 : Hid (∀ (wz : World) (bs gh gu : Nat), Below (w.alloc (.cells #[.int .i64 m, Vi, Vl, Vo, Vb, Vc, Vj, Vf, .slice AA nA cA, Vs, Vt] 29)).heap.size (w.alloc (.cells #[.int .i64 m, Vi, Vl, Vo, Vb, Vc, Vj, Vf, .slice AA nA cA, Vs, Vt] 29)) wz → w.heap.size < bs ∧ w.heap.size < gh ∧ w.heap.size < gu → bs < w.heap.size + 4 ∧ gh < w.heap.size + 4 ∧ gu < w.heap.size + 4 → bs ≠ gu → gh ≠ gu → w.heap.size + 4 ≤ wz.heap.size →
      Tab wz gh (List.replicate n false) → Blk wz bs 55 (NB.cells ⟨bs, gv, gh, gu, n, .slice AA nA cA⟩) → Blk wz gu 22 (List.replicate n (Value.slice none 0 0)).toArray → NW w wz ⟨bs, gv, gh, gu, n, .slice AA nA cA⟩ #[.int .i64 m, Vi, Vl, Vo, Vb, Vc, Vj, Vf, .slice AA nA cA, Vs, Vt] (List.replicate n (.slice none 0 0)) (usersN C n 0)) := Lib.hid (fun wz bs gh gu hb hlo hhi hne1 hne2 hsz hh hbx hus => by
    refine ⟨((Below.refl w.heap.size w).alloc (Nat.le_refl _) _).trans (hb.mono (by simp)), hgv, ⟨by simp only; omega, by simp only; omega, by simp only; omega⟩, hhi, hsz, ⟨hne1, hne2, by simp only; omega⟩, (Blk.new w _ _).below hb (by simp), hh, hbx, hus, by simp, by simp [usersN], ⟨fun p hp => ?_, fun i j a b hij hi hj gx hga hgb => ?_⟩⟩
    · rw [zip_nil hp]; exact World.ownsRow_nil _ _ _ _
    · rw [zip_nil (List.mem_of_getElem? hi)] at hga
      simp [Value.ownBlock] at hga)
  clear h hrt hT hl rA hi0 hz0 hz1 hz2 hmm hnA hgv hn hm0 hm1
  go_enter Tryz.func17, Tryz.ntmps17
  go_upto_region 1 with (fail)
  go_cut [5] (fun p wx => ∃ (bs gh gu : Nat), p = .pointer (some ⟨bs, 0, none⟩) ∧ NW w wx ⟨bs, gv, gh, gu, n, .slice AA nA cA⟩ #[.int .i64 m, Vi, Vl, Vo, Vb, Vc, Vj, Vf, .slice AA nA cA, Vs, Vt] (List.replicate n (.slice none 0 0)) (usersN C n 0))
  case first =>
    go_region
    all_goals (
      go_wp2_with fail
      go_meet)
    · have hn0 : Below (w.alloc (.cells #[.int .i64 m, Vi, Vl, Vo, Vb, Vc, Vj, Vf, .slice AA nA cA, Vs, Vt] 29)).heap.size (w.alloc (.cells #[.int .i64 m, Vi, Vl, Vo, Vb, Vc, Vj, Vf, .slice AA nA cA, Vs, Vt] 29)) (w.alloc (.cells #[.int .i64 m, Vi, Vl, Vo, Vb, Vc, Vj, Vf, .slice AA nA cA, Vs, Vt] 29)) := (Below.refl _ _)
      refine ⟨w.heap.size + 1 + 1 + 1, w.heap.size + 1 + 1, w.heap.size + 1 + 0, rfl, HNW0.out _ _ _ _ ?b1 ⟨by omega, by omega, by omega⟩ ⟨by omega, by omega, by omega⟩ (by omega) (by omega) ?b2 ?b3 ?b4 ?b5⟩
      case b1 => exact ((((hn0.alloc (by simp) _).alloc (by simp; try omega) _).alloc (by simp; try omega) _)).drew
      case b2 => simp
      case b3 => unfold Tab; rw [← made_bools]; first | exact Blk.drew ((Blk.new ((w.alloc (.cells #[.int .i64 m, Vi, Vl, Vo, Vb, Vc, Vj, Vf, .slice AA nA cA, Vs, Vt] 29)).alloc (.cells (madeCells #[Value.slice none 0 0] n) 22)) 4 (madeCells #[Value.bool false] n)).alloc (.cells (NB.cells ⟨w.heap.size + 1 + 1 + 1, gv, w.heap.size + 1 + 1, w.heap.size + 1 + 0, n, .slice AA nA cA⟩) 55)) | exact (by have h9 := Blk.drew ((Blk.new ((w.alloc (.cells #[.int .i64 m, Vi, Vl, Vo, Vb, Vc, Vj, Vf, .slice AA nA cA, Vs, Vt] 29)).alloc (.cells (madeCells #[Value.slice none 0 0] n) 22)) 4 (madeCells #[Value.bool false] n)).alloc (.cells (NB.cells ⟨w.heap.size + 1 + 1 + 1, gv, w.heap.size + 1 + 1, w.heap.size + 1 + 0, n, .slice AA nA cA⟩) 55)); simpa using h9)
      case b4 => first | exact Blk.drew (Blk.new (((w.alloc (.cells #[.int .i64 m, Vi, Vl, Vo, Vb, Vc, Vj, Vf, .slice AA nA cA, Vs, Vt] 29)).alloc (.cells (madeCells #[Value.slice none 0 0] n) 22)).alloc (.cells (madeCells #[Value.bool false] n) 4)) 55 (NB.cells ⟨w.heap.size + 1 + 1 + 1, gv, w.heap.size + 1 + 1, w.heap.size + 1 + 0, n, .slice AA nA cA⟩)) | exact (by have h9 := Blk.drew (Blk.new (((w.alloc (.cells #[.int .i64 m, Vi, Vl, Vo, Vb, Vc, Vj, Vf, .slice AA nA cA, Vs, Vt] 29)).alloc (.cells (madeCells #[Value.slice none 0 0] n) 22)).alloc (.cells (madeCells #[Value.bool false] n) 4)) 55 (NB.cells ⟨w.heap.size + 1 + 1 + 1, gv, w.heap.size + 1 + 1, w.heap.size + 1 + 0, n, .slice AA nA cA⟩)); simpa using h9)
      case b5 => rw [← made_rows]; first | exact Blk.drew (((Blk.new (w.alloc (.cells #[.int .i64 m, Vi, Vl, Vo, Vb, Vc, Vj, Vf, .slice AA nA cA, Vs, Vt] 29)) 22 (madeCells #[Value.slice none 0 0] n)).alloc (.cells (madeCells #[Value.bool false] n) 4)).alloc (.cells (NB.cells ⟨w.heap.size + 1 + 1 + 1, gv, w.heap.size + 1 + 1, w.heap.size + 1 + 0, n, .slice AA nA cA⟩) 55)) | exact (by have h9 := Blk.drew (((Blk.new (w.alloc (.cells #[.int .i64 m, Vi, Vl, Vo, Vb, Vc, Vj, Vf, .slice AA nA cA, Vs, Vt] 29)) 22 (madeCells #[Value.slice none 0 0] n)).alloc (.cells (madeCells #[Value.bool false] n) 4)).alloc (.cells (NB.cells ⟨w.heap.size + 1 + 1 + 1, gv, w.heap.size + 1 + 1, w.heap.size + 1 + 0, n, .slice AA nA cA⟩) 55)); simpa using h9)
    · have hn0 : Below (w.alloc (.cells #[.int .i64 m, Vi, Vl, Vo, Vb, Vc, Vj, Vf, .slice AA nA cA, Vs, Vt] 29)).heap.size (w.alloc (.cells #[.int .i64 m, Vi, Vl, Vo, Vb, Vc, Vj, Vf, .slice AA nA cA, Vs, Vt] 29)) (w.alloc (.cells #[.int .i64 m, Vi, Vl, Vo, Vb, Vc, Vj, Vf, .slice AA nA cA, Vs, Vt] 29)) := (Below.refl _ _)
      refine ⟨w.heap.size + 1 + 1 + 1, w.heap.size + 1 + 0, w.heap.size + 1 + 1, rfl, HNW0.out _ _ _ _ ?b1 ⟨by omega, by omega, by omega⟩ ⟨by omega, by omega, by omega⟩ (by omega) (by omega) ?b2 ?b3 ?b4 ?b5⟩
      case b1 => exact ((((hn0.alloc (by simp) _).alloc (by simp; try omega) _).alloc (by simp; try omega) _)).drew
      case b2 => simp
      case b3 => unfold Tab; rw [← made_bools]; first | exact Blk.drew (((Blk.new (w.alloc (.cells #[.int .i64 m, Vi, Vl, Vo, Vb, Vc, Vj, Vf, .slice AA nA cA, Vs, Vt] 29)) 4 (madeCells #[Value.bool false] n)).alloc (.cells (madeCells #[Value.slice none 0 0] n) 22)).alloc (.cells (NB.cells ⟨w.heap.size + 1 + 1 + 1, gv, w.heap.size + 1 + 0, w.heap.size + 1 + 1, n, .slice AA nA cA⟩) 55)) | exact (by have h9 := Blk.drew (((Blk.new (w.alloc (.cells #[.int .i64 m, Vi, Vl, Vo, Vb, Vc, Vj, Vf, .slice AA nA cA, Vs, Vt] 29)) 4 (madeCells #[Value.bool false] n)).alloc (.cells (madeCells #[Value.slice none 0 0] n) 22)).alloc (.cells (NB.cells ⟨w.heap.size + 1 + 1 + 1, gv, w.heap.size + 1 + 0, w.heap.size + 1 + 1, n, .slice AA nA cA⟩) 55)); simpa using h9)
      case b4 => first | exact Blk.drew (Blk.new (((w.alloc (.cells #[.int .i64 m, Vi, Vl, Vo, Vb, Vc, Vj, Vf, .slice AA nA cA, Vs, Vt] 29)).alloc (.cells (madeCells #[Value.bool false] n) 4)).alloc (.cells (madeCells #[Value.slice none 0 0] n) 22)) 55 (NB.cells ⟨w.heap.size + 1 + 1 + 1, gv, w.heap.size + 1 + 0, w.heap.size + 1 + 1, n, .slice AA nA cA⟩)) | exact (by have h9 := Blk.drew (Blk.new (((w.alloc (.cells #[.int .i64 m, Vi, Vl, Vo, Vb, Vc, Vj, Vf, .slice AA nA cA, Vs, Vt] 29)).alloc (.cells (madeCells #[Value.bool false] n) 4)).alloc (.cells (madeCells #[Value.slice none 0 0] n) 22)) 55 (NB.cells ⟨w.heap.size + 1 + 1 + 1, gv, w.heap.size + 1 + 0, w.heap.size + 1 + 1, n, .slice AA nA cA⟩)); simpa using h9)
      case b5 => rw [← made_rows]; first | exact Blk.drew ((Blk.new ((w.alloc (.cells #[.int .i64 m, Vi, Vl, Vo, Vb, Vc, Vj, Vf, .slice AA nA cA, Vs, Vt] 29)).alloc (.cells (madeCells #[Value.bool false] n) 4)) 22 (madeCells #[Value.slice none 0 0] n)).alloc (.cells (NB.cells ⟨w.heap.size + 1 + 1 + 1, gv, w.heap.size + 1 + 0, w.heap.size + 1 + 1, n, .slice AA nA cA⟩) 55)) | exact (by have h9 := Blk.drew ((Blk.new ((w.alloc (.cells #[.int .i64 m, Vi, Vl, Vo, Vb, Vc, Vj, Vf, .slice AA nA cA, Vs, Vt] 29)).alloc (.cells (madeCells #[Value.bool false] n) 4)) 22 (madeCells #[Value.slice none 0 0] n)).alloc (.cells (NB.cells ⟨w.heap.size + 1 + 1 + 1, gv, w.heap.size + 1 + 0, w.heap.size + 1 + 1, n, .slice AA nA cA⟩) 55)); simpa using h9)
  case rest =>
    obtain ⟨bs, gh, gu, rfl, hnw⟩ := hcut
    have HNW := Lib.hid hnw
    have c8 := hnw.cb.cell 8
    simp only [List.getElem?_toArray, List.getElem?_cons_zero, List.getElem?_cons_succ] at c8
    clear hnw HNW0 hmk1 hmk2
    go_wp2
    go_loopg [22] nA (fun j iv wx => ∃ (k : Nat) (vs : List Value), k ≤ nA ∧ iv = .int .i64 k ∧ j = nA - k ∧ NW w wx ⟨bs, gv, gh, gu, n, .slice AA nA cA⟩ #[.int .i64 m, Vi, Vl, Vo, Vb, Vc, Vj, Vf, .slice AA nA cA, Vs, Vt] vs (usersN C n k))
    case atStart => exact ⟨0, _, Nat.zero_le _, rfl, rfl, HNW.out⟩
    case round =>
      obtain ⟨k, vs, hk, rfl, hgk, hnw⟩ := hrel
      subst hgk
      clear HNW c8
      have HNW := Lib.hid hnw
      have c8 := hnw.cb.cell 8
      simp only [List.getElem?_toArray, List.getElem?_cons_zero, List.getElem?_cons_succ] at c8
      by_cases hlt : k < nA
      · obtain ⟨z, hz⟩ : ∃ z, C.ands[k]? = some z := ⟨_, List.getElem?_eq_getElem (by rw [HNA.out]; exact hlt)⟩
        obtain ⟨ab, aoff, e, hab, hcell⟩ := HRA.out k z hz
        subst e
        have hza := HRT.out.a z (List.mem_of_getElem? hz)
        unfold LitOk at hza
        have HUS : Hid (usersN C n (k + 1) = addU (addU (usersN C n k) (z.2.1 / 2).toNat (k : Int)) (z.2.2 / 2).toNat (k : Int)) := Lib.hid (by
          have hzD : C.ands.getD k (0, 0, 0) = z := by simp [List.getD_eq_getElem?_getD, hz]
          show addU (addU (usersN C n k) ((C.ands.getD k (0, 0, 0)).2.1 / 2).toNat (k : Int)) ((C.ands.getD k (0, 0, 0)).2.2 / 2).toNat (k : Int) = _
          rw [hzD])
        obtain ⟨z0, z1, z2⟩ := z
        obtain ⟨⟨q00, q01⟩, ⟨hz10, hz11⟩, hz20, hz21⟩ := hza
        simp only at q00 q01 hz10 hz11 hz20 hz21 HUS
        have m0 := (hnw.below.cell (p := ⟨ab, aoff + (k * 3 + 0), none⟩) hab).trans (hcell 0 _ rfl)
        have m1 := (hnw.below.cell (p := ⟨ab, aoff + (k * 3 + 1), none⟩) hab).trans (hcell 1 _ rfl)
        have m2 := (hnw.below.cell (p := ⟨ab, aoff + (k * 3 + 2), none⟩) hab).trans (hcell 2 _ rfl)
        simp only [Nat.add_zero, ← Nat.add_assoc] at m0 m1 m2
        have hki : (k : Int) < (nA : Int) := by omega
        have hki0 : (0 : Int) ≤ (k : Int) := by omega
        have HSH := Lib.hid (usersN_short C n k)
        have hbA : Below wr.heap.size wr (wr.alloc (.cells #[.int .i64 z0, .int .i64 z1, .int .i64 z2] 45)) := (Below.refl _ _).alloc (Nat.le_refl _) _
        have HN5 := Lib.hid (hnw.on hbA)
        have HG5 : Hid (Blk (wr.alloc (.cells #[.int .i64 z0, .int .i64 z1, .int .i64 z2] 45)) wr.heap.size 45 #[.int .i64 z0, .int .i64 z1, .int .i64 z2]) := Lib.hid (Blk.new wr _ _)
        have HNE : Hid (wr.heap.size ≠ gu) := Lib.hid (by have h1 := hnw.hi; have h2 := hnw.sz; simp only at h1; omega)
        clear hnw hz hcell hbA hab
        go_upto_region 5 with (fail)
        generalize hW5 : wr.alloc (.cells #[.int .i64 z0, .int .i64 z1, .int .i64 z2] 45) = W5 at *
        generalize hbx : wr.heap.size = bx at *
        have HGEN := Lib.hid (And.intro hW5 hbx)
        clear hW5 hbx HGEN

        have hvx5 : (z1 / 2).toNat < n := by have := HNM.out; omega
        obtain ⟨u5, hu5⟩ : ∃ u, (vs)[(z1 / 2).toNat]? = some u := ⟨_, List.getElem?_eq_getElem (by have := HN5.out.vl; simp only at this; omega)⟩
        obtain ⟨y5, hy5⟩ : ∃ y, (usersN C n k)[(z1 / 2).toNat]? = some y := ⟨_, List.getElem?_eq_getElem (by have := HN5.out.ul; simp only at this; omega)⟩
        have HUY5 := Lib.hid (And.intro hu5 hy5)
        have hyl5 : y5.length ≤ 40000 := by
          have h9 := HSH.out (z1 / 2).toNat
          rw [List.getD_eq_getElem?_getD, hy5] at h9
          have h8 : y5.length ≤ 2 * k := h9
          omega
        obtain ⟨A5, c5, he5⟩ := own_slice_k (HN5.out.row hu5 hy5)
        obtain ⟨yl5, hyq5⟩ : ∃ k, y5.length = k := ⟨_, rfl⟩
        rw [hyq5] at he5 hyl5
        subst he5
        have HYQ5 := Lib.hid hyq5
        have HC5 : Hid (∀ wz, Below W5.heap.size W5 wz → (wz.cell? ⟨bs, 1, none⟩ = some (.slice (some ⟨gu, 0, none⟩) n n) ∧ wz.cell? ⟨bx, 1, none⟩ = some (.int .i64 z1) ∧ wz.cell? ⟨gu, (z1 / 2).toNat, none⟩ = some (.slice A5 yl5 c5)) ∧ wz.ownsRow (w.heap.size + 4) 3 1 (.slice A5 yl5 c5) yl5 (y5.map (Value.int .i64))) := Lib.hid (fun wz hb => by
          have hx := HN5.out.on hb
          have hbk := HG5.out.below hb HG5.out.lt
          have h9 := hx.row HUY5.out.1 HUY5.out.2
          rw [HYQ5.out] at h9
          have h8 := hx.us.cell (z1 / 2).toNat
          rw [List.getElem?_toArray, HUY5.out.1] at h8
          exact ⟨⟨hx.box.cell 1, hbk.cell 1, h8⟩, h9⟩)
        have HD5 : Hid (Below W5.heap.size W5 W5.drew) := Lib.hid (Below.refl _ _).drew
        have HW5 : Hid (∀ w3, (W5.drew.alloc (.cells #[.int .i64 (k : Int)] 3)).grownBy w3 (Value.slice A5 yl5 c5).ownBlock → (w3.cell? ⟨bs, 1, none⟩ = some (.slice (some ⟨gu, 0, none⟩) n n) ∧ w3.cell? ⟨bx, 1, none⟩ = some (.int .i64 z1)) ∧ (∀ v9, (w3.setCell ⟨gu, (z1 / 2).toNat, none⟩ v9).cell? ⟨bs, 1, none⟩ = some (.slice (some ⟨gu, 0, none⟩) n n) ∧ (w3.setCell ⟨gu, (z1 / 2).toNat, none⟩ v9).cell? ⟨bx, 1, none⟩ = some (.int .i64 z1)) ∧ w3.cell? ⟨gu, (z1 / 2).toNat, none⟩ = some (.slice A5 yl5 c5) ∧ w3.frozen? ⟨gu, (z1 / 2).toNat, none⟩ = false ∧ gu < w3.heap.size) := Lib.hid (fun w3 hg => by
          have hx := HN5.out.on (HD5.out.alloc (Nat.le_refl _) (.cells #[.int .i64 (k : Int)] 3))
          have hrow := hx.row HUY5.out.1 HUY5.out.2
          have kk : ∀ (q : Nat) (t : TypeId) (ar : Array Value), Blk (W5.drew.alloc (.cells #[.int .i64 (k : Int)] 3)) q t ar → t ≠ 3 → Blk w3 q t ar := fun q t ar hb hne => hb.grown hg (fun e => own_blk_ne hrow hb (Ne.symm hne) e.symm)
          have b1 := kk _ _ _ hx.box (by decide)
          have b2 := kk _ _ _ (HG5.out.below (HD5.out.alloc (Nat.le_refl _) (.cells #[.int .i64 (k : Int)] 3)) HG5.out.lt) (by decide)
          have b3 := kk _ _ _ hx.us (by decide)
          have h8 := b3.cell (z1 / 2).toNat
          rw [List.getElem?_toArray, HUY5.out.1] at h8
          refine ⟨⟨b1.cell 1, b2.cell 1⟩, fun v9 => ⟨(Blk.far b1 (p := ⟨gu, (z1 / 2).toNat, none⟩) (by simpa using hx.ne.1) v9).cell 1, (Blk.far b2 (p := ⟨gu, (z1 / 2).toNat, none⟩) (by simpa using HNE.out) v9).cell 1⟩, h8, b3.frozen _, b3.lt⟩)
        have hsz5 : w.heap.size + 4 ≤ W5.heap.size := HN5.out.sz
        have hzd5 : 0 ≤ z1 / 2 := by omega
        have hzn5 : z1 / 2 < (n : Int) := by have := HNM.out; omega
        have hzw5 : IntKind.i64.wrap (z1 / 2) = z1 / 2 := by simp [IntKind.wrap, IntKind.bits, IntKind.signed]; omega
        have hzt5 := tdiv_nn (b := 2) hz10
        clear hu5 hy5 hyq5
        refine wp_region_T (by kernel_rfl) (fun w' => w'.cell? ⟨bs, 1, none⟩ = some (.slice (some ⟨gu, 0, none⟩) n n) ∧ w'.cell? ⟨bx, 1, none⟩ = some (.int .i64 z1) ∧ w'.cell? ⟨gu, (z1 / 2).toNat, none⟩ = some (.slice A5 yl5 c5)) 19 ?_
        have hHeld := (HC5.out _ HD5.out).1
        refine wpAnyT_take (i := 0) (oi := { dst := some 27, op := Op.move (Operand.tmp 5), type := 48, pos := "spread.go:21", after := #[], guard := none }) (v := ?v0r5) rfl (by kernel_rfl) (fun _ _ _ h => h) (by rfl) hHeld ?h0r5 ?_
        case h0r5 => (intro w' hSw; (try dsimp only at hSw); go_simp; try with_reducible rfl)
        (try simp only [Act.put, List.setIfInBounds_toArray, List.set_cons_zero, List.set_cons_succ])
        refine wpAnyT_take (i := 1) (oi := { dst := some 28, op := Op.nilCheck (Operand.tmp 27), type := 0, pos := "spread.go:21", after := #[{ on := 0, ground := Ground.data }], guard := none }) (v := ?v1r5) rfl (by kernel_rfl) (fun _ _ _ h => h) (by rfl) hHeld ?h1r5 ?_
        case h1r5 => (intro w' hSw; (try dsimp only at hSw); go_simp; try with_reducible rfl)
        (try simp only [Act.put, List.setIfInBounds_toArray, List.set_cons_zero, List.set_cons_succ])
        refine wpAnyT_take (i := 2) (oi := { dst := some 29, op := Op.fieldAddr 55 (Operand.tmp 28) 1, type := 0, pos := "spread.go:21", after := #[{ on := 1, ground := Ground.data }], guard := none }) (v := ?v2r5) rfl (by kernel_rfl) (fun _ _ _ h => h) (by rfl) hHeld ?h2r5 ?_
        case h2r5 => (intro w' hSw; (try dsimp only at hSw); go_simp; try with_reducible rfl)
        (try simp only [Act.put, List.setIfInBounds_toArray, List.set_cons_zero, List.set_cons_succ])
        refine wpAnyT_take (i := 3) (oi := { dst := some 30, op := Op.load 24 (Operand.tmp 29), type := 24, pos := "spread.go:21", after := #[{ on := 2, ground := Ground.data }], guard := none }) (v := ?v3r5) rfl (by kernel_rfl) (fun _ _ _ h => h) (by rfl) hHeld ?h3r5 ?_
        case h3r5 => (intro w' hSw; (try dsimp only at hSw); go_simp; try with_reducible rfl)
        (try simp only [Act.put, List.setIfInBounds_toArray, List.set_cons_zero, List.set_cons_succ])
        refine wpAnyT_take (i := 4) (oi := { dst := some 31, op := Op.fieldAddr 45 (Operand.tmp 7) 1, type := 0, pos := "spread.go:21", after := #[], guard := none }) (v := ?v4r5) rfl (by kernel_rfl) (fun _ _ _ h => h) (by rfl) hHeld ?h4r5 ?_
        case h4r5 => (intro w' hSw; (try dsimp only at hSw); go_simp; try with_reducible rfl)
        (try simp only [Act.put, List.setIfInBounds_toArray, List.set_cons_zero, List.set_cons_succ])
        refine wpAnyT_take (i := 5) (oi := { dst := some 32, op := Op.load 3 (Operand.tmp 31), type := 3, pos := "spread.go:21", after := #[{ on := 4, ground := Ground.data }], guard := none }) (v := ?v5r5) rfl (by kernel_rfl) (fun _ _ _ h => h) (by rfl) hHeld ?h5r5 ?_
        case h5r5 => (intro w' hSw; (try dsimp only at hSw); go_simp; try with_reducible rfl)
        (try simp only [Act.put, List.setIfInBounds_toArray, List.set_cons_zero, List.set_cons_succ])
        refine wpAnyT_take (i := 6) (oi := { dst := some 33, op := Op.binOp BinOp.quo 3 (Operand.tmp 32) (Operand.const (Value.int IntKind.i64 2)) 3, type := 3, pos := "spread.go:21", after := #[{ on := 5, ground := Ground.data }], guard := none }) (v := ?v6r5) rfl (by kernel_rfl) (fun _ _ _ h => h) (by rfl) hHeld ?h6r5 ?_
        case h6r5 => (intro w' hSw; (try dsimp only at hSw); go_simp; try with_reducible rfl)
        (try simp only [Act.put, List.setIfInBounds_toArray, List.set_cons_zero, List.set_cons_succ])
        refine wpAnyT_take (i := 7) (oi := { dst := some 34, op := Op.move (Operand.tmp 5), type := 48, pos := "spread.go:21", after := #[], guard := none }) (v := ?v7r5) rfl (by kernel_rfl) (fun _ _ _ h => h) (by rfl) hHeld ?h7r5 ?_
        case h7r5 => (intro w' hSw; (try dsimp only at hSw); go_simp; try with_reducible rfl)
        (try simp only [Act.put, List.setIfInBounds_toArray, List.set_cons_zero, List.set_cons_succ])
        refine wpAnyT_take (i := 8) (oi := { dst := some 35, op := Op.nilCheck (Operand.tmp 34), type := 0, pos := "spread.go:21", after := #[{ on := 7, ground := Ground.data }], guard := none }) (v := ?v8r5) rfl (by kernel_rfl) (fun _ _ _ h => h) (by rfl) hHeld ?h8r5 ?_
        case h8r5 => (intro w' hSw; (try dsimp only at hSw); go_simp; try with_reducible rfl)
        (try simp only [Act.put, List.setIfInBounds_toArray, List.set_cons_zero, List.set_cons_succ])
        refine wpAnyT_take (i := 9) (oi := { dst := some 36, op := Op.fieldAddr 55 (Operand.tmp 35) 1, type := 0, pos := "spread.go:21", after := #[{ on := 8, ground := Ground.data }], guard := none }) (v := ?v9r5) rfl (by kernel_rfl) (fun _ _ _ h => h) (by rfl) hHeld ?h9r5 ?_
        case h9r5 => (intro w' hSw; (try dsimp only at hSw); go_simp; try with_reducible rfl)
        (try simp only [Act.put, List.setIfInBounds_toArray, List.set_cons_zero, List.set_cons_succ])
        refine wpAnyT_take (i := 10) (oi := { dst := some 37, op := Op.load 24 (Operand.tmp 36), type := 24, pos := "spread.go:21", after := #[{ on := 9, ground := Ground.data }], guard := none }) (v := ?v10r5) rfl (by kernel_rfl) (fun _ _ _ h => h) (by rfl) hHeld ?h10r5 ?_
        case h10r5 => (intro w' hSw; (try dsimp only at hSw); go_simp; try with_reducible rfl)
        (try simp only [Act.put, List.setIfInBounds_toArray, List.set_cons_zero, List.set_cons_succ])
        refine wpAnyT_take (i := 11) (oi := { dst := some 38, op := Op.fieldAddr 45 (Operand.tmp 7) 1, type := 0, pos := "spread.go:21", after := #[], guard := none }) (v := ?v11r5) rfl (by kernel_rfl) (fun _ _ _ h => h) (by rfl) hHeld ?h11r5 ?_
        case h11r5 => (intro w' hSw; (try dsimp only at hSw); go_simp; try with_reducible rfl)
        (try simp only [Act.put, List.setIfInBounds_toArray, List.set_cons_zero, List.set_cons_succ])
        refine wpAnyT_take (i := 12) (oi := { dst := some 39, op := Op.load 3 (Operand.tmp 38), type := 3, pos := "spread.go:21", after := #[{ on := 11, ground := Ground.data }], guard := none }) (v := ?v12r5) rfl (by kernel_rfl) (fun _ _ _ h => h) (by rfl) hHeld ?h12r5 ?_
        case h12r5 => (intro w' hSw; (try dsimp only at hSw); go_simp; try with_reducible rfl)
        (try simp only [Act.put, List.setIfInBounds_toArray, List.set_cons_zero, List.set_cons_succ])
        refine wpAnyT_take (i := 13) (oi := { dst := some 40, op := Op.binOp BinOp.quo 3 (Operand.tmp 39) (Operand.const (Value.int IntKind.i64 2)) 3, type := 3, pos := "spread.go:21", after := #[{ on := 12, ground := Ground.data }], guard := none }) (v := ?v13r5) rfl (by kernel_rfl) (fun _ _ _ h => h) (by rfl) hHeld ?h13r5 ?_
        case h13r5 => (intro w' hSw; (try dsimp only at hSw); go_simp; try with_reducible rfl)
        (try simp only [Act.put, List.setIfInBounds_toArray, List.set_cons_zero, List.set_cons_succ])
        refine wpAnyT_take (i := 14) (oi := { dst := some 41, op := Op.indexAddr 24 (Operand.tmp 37) (Operand.tmp 40), type := 0, pos := "spread.go:21", after := #[{ on := 10, ground := Ground.data }, { on := 13, ground := Ground.data }], guard := none }) (v := ?v14r5) rfl (by kernel_rfl) (fun _ _ _ h => h) (by rfl) hHeld ?h14r5 ?_
        case h14r5 => (intro w' hSw; (try dsimp only at hSw); go_simp; try with_reducible rfl)
        (try simp only [Act.put, List.setIfInBounds_toArray, List.set_cons_zero, List.set_cons_succ])
        refine wpAnyT_take (i := 15) (oi := { dst := some 42, op := Op.load 22 (Operand.tmp 41), type := 22, pos := "spread.go:21", after := #[{ on := 14, ground := Ground.data }], guard := none }) (v := ?v15r5) rfl (by kernel_rfl) (fun _ _ _ h => h) (by rfl) hHeld ?h15r5 ?_
        case h15r5 => (intro w' hSw; (try dsimp only at hSw); go_simp; try with_reducible rfl)
        (try simp only [Act.put, List.setIfInBounds_toArray, List.set_cons_zero, List.set_cons_succ])
        refine wpAnyT_take (i := 16) (oi := { dst := some 43, op := Op.move (Operand.tmp 6), type := 3, pos := "spread.go:21", after := #[], guard := none }) (v := ?v16r5) rfl (by kernel_rfl) (fun _ _ _ h => h) (by rfl) hHeld ?h16r5 ?_
        case h16r5 => (intro w' hSw; (try dsimp only at hSw); go_simp; try with_reducible rfl)
        (try simp only [Act.put, List.setIfInBounds_toArray, List.set_cons_zero, List.set_cons_succ])
        clear hHeld
        refine wpAnyT_one (i := 17) (o := { dst := some 44, op := Op.buildSlice 22 1 #[(0, Operand.tmp 43)], type := 22, pos := "spread.go:21", after := #[{ on := 16, ground := Ground.data }], guard := none }) rfl (by kernel_rfl) (fun K hK => ?_)
        go_simp
        refine hK.out _ _ (fun _ => (HC5.out _ (HD5.out.alloc (Nat.le_refl _) _)).1) ?_
        clear hK K
        (try simp only [Act.put, List.setIfInBounds_toArray, List.set_cons_zero, List.set_cons_succ])
        refine wpAnyT_one (i := 18) (o := { dst := some 45, op := Op.call { callee := Callee.builtin Builtin.append, args := #[Operand.tmp 42, Operand.tmp 44], argTypes := #[22, 22] }, type := 22, pos := "spread.go:21", after := #[{ on := 15, ground := Ground.data }, { on := 17, ground := Ground.data }], guard := none }) rfl (by kernel_rfl) (fun K hK => ?_)
        refine step_append_any _ rfl (.tmp 42) (.tmp 44) _ rfl (w.heap.size + 4) 3 i0 _ 1 8 Tryz.underlying22 HI0.out.1 HI0.out.2.1 HI0.out.2.2.1 HI0.out.2.2.2 rfl (by omega) (.slice A5 yl5 c5) yl5 (y5.map (Value.int .i64)) (by first | rfl | (simp [Act.eval])) (HC5.out _ (HD5.out.alloc (Nat.le_refl _) _)).2 (W5.heap.size + 1) (some ⟨W5.heap.size, 0, none⟩) 1 1 [.int .i64 (k : Int)] (by first | rfl | (simp [Act.eval])) (reads_one _ _ _) (by simp [Value.oneCell']) (by simp only [maxLen]; omega) (by omega) (by first | (simp; done) | (simp; omega) | (simp at hsz5 ⊢; omega)) ?_
        intro v5 w5 hown5 hg5 hat5
        obtain ⟨B5, k5, hf5⟩ := own_slice_k hown5
        subst hf5
        obtain ⟨⟨q1, q2⟩, _, q3, qf, ql⟩ := HW5.out _ hg5
        refine hK.out _ _ (fun _ => ⟨q1, q2, q3⟩) ?_
        clear hK K
        (try simp only [Act.put, List.setIfInBounds_toArray, List.set_cons_zero, List.set_cons_succ])
        have HO5 := Lib.hid hown5
        have HGR5 := Lib.hid hg5
        have HAT5 := Lib.hid hat5
        clear hown5 hg5 hat5
        refine wpAnyT_one (i := 19) (o := { dst := some 46, op := Op.indexAddr 24 (Operand.tmp 30) (Operand.tmp 33), type := 0, pos := "spread.go:21", after := #[{ on := 3, ground := Ground.data }, { on := 6, ground := Ground.data }, { on := 0, ground := Ground.phase }, { on := 1, ground := Ground.phase }, { on := 2, ground := Ground.phase }, { on := 3, ground := Ground.phase }, { on := 4, ground := Ground.phase }, { on := 5, ground := Ground.phase }, { on := 6, ground := Ground.phase }, { on := 7, ground := Ground.phase }, { on := 8, ground := Ground.phase }, { on := 9, ground := Ground.phase }, { on := 10, ground := Ground.phase }, { on := 11, ground := Ground.phase }, { on := 12, ground := Ground.phase }, { on := 13, ground := Ground.phase }, { on := 14, ground := Ground.phase }, { on := 15, ground := Ground.phase }, { on := 16, ground := Ground.phase }, { on := 17, ground := Ground.phase }, { on := 18, ground := Ground.phase }], guard := none }) rfl (by kernel_rfl) (fun K hK => ?_)
        go_simp
        refine hK.out _ _ (fun h => absurd h (by decide)) ?_
        clear hK K
        (try simp only [Act.put, List.setIfInBounds_toArray, List.set_cons_zero, List.set_cons_succ])
        refine wpAnyT_one (i := 20) (o := { dst := none, op := Op.store 22 (Operand.tmp 46) (Operand.tmp 45), type := 0, pos := "spread.go:21", after := #[{ on := 19, ground := Ground.data }, { on := 18, ground := Ground.data }, { on := 18, ground := Ground.chain }, { on := 0, ground := Ground.phase }, { on := 1, ground := Ground.phase }, { on := 2, ground := Ground.phase }, { on := 3, ground := Ground.phase }, { on := 4, ground := Ground.phase }, { on := 5, ground := Ground.phase }, { on := 6, ground := Ground.phase }, { on := 7, ground := Ground.phase }, { on := 8, ground := Ground.phase }, { on := 9, ground := Ground.phase }, { on := 10, ground := Ground.phase }, { on := 11, ground := Ground.phase }, { on := 12, ground := Ground.phase }, { on := 13, ground := Ground.phase }, { on := 14, ground := Ground.phase }, { on := 15, ground := Ground.phase }, { on := 16, ground := Ground.phase }, { on := 17, ground := Ground.phase }, { on := 18, ground := Ground.phase }], guard := none }) rfl (by kernel_rfl) (fun K hK => ?_)
        go_simp
        refine hK.out _ _ (fun h => absurd h (by decide)) ?_
        clear hK K
        (try simp only [Act.put, List.setIfInBounds_toArray, List.set_cons_zero, List.set_cons_succ])
        refine wpAnyT_done (by kernel_rfl) ?_
        have happ5 := (HN5.out.on (HD5.out.alloc (Nat.le_refl _) (.cells #[.int .i64 (k : Int)] 3))).app (i := (k : Int)) HUY5.out.1 HUY5.out.2 (by rw [HYQ5.out]; exact HO5.out) HGR5.out (by rcases HAT5.out with e | e; exact .inl e; exact .inr e)
        have HN6 := Lib.hid happ5.1
        have HG6 := Lib.hid ((happ5.2 _ _ _ (HG5.out.below (HD5.out.alloc (Nat.le_refl _) (.cells #[.int .i64 (k : Int)] 3)) HG5.out.lt) (by decide)).2 HNE.out)
        clear happ5 q1 q2 q3 qf ql
        have HUS6 : Hid ((usersN C n k).set (z1 / 2).toNat (y5 ++ [(k : Int)]) = addU (usersN C n k) (z1 / 2).toNat (k : Int)) := Lib.hid (addU_of HUY5.out.2 _).symm
        rw [HUS6.out] at HN6
        have HSH6 : Hid (∀ v, ((addU (usersN C n k) (z1 / 2).toNat (k : Int)).getD v []).length ≤ 2 * k + 1) := Lib.hid (fun v => Nat.le_trans (addU_short _ _ _ v) (by have := HSH.out v; omega))
        generalize (vs.set (z1 / 2).toNat (.slice B5 (yl5 + 1) k5)) = vs6 at HN6
        go_upto_region 6 with (fail)
        generalize (w5.setCell ⟨gu, (z1 / 2).toNat, none⟩ (.slice B5 (yl5 + 1) k5)) = W6 at *

        have hvx6 : (z2 / 2).toNat < n := by have := HNM.out; omega
        obtain ⟨u6, hu6⟩ : ∃ u, (vs6)[(z2 / 2).toNat]? = some u := ⟨_, List.getElem?_eq_getElem (by have := HN6.out.vl; simp only at this; omega)⟩
        obtain ⟨y6, hy6⟩ : ∃ y, (addU (usersN C n k) (z1 / 2).toNat (k : Int))[(z2 / 2).toNat]? = some y := ⟨_, List.getElem?_eq_getElem (by have := HN6.out.ul; simp only at this; omega)⟩
        have HUY6 := Lib.hid (And.intro hu6 hy6)
        have hyl6 : y6.length ≤ 40000 := by
          have h9 := HSH6.out (z2 / 2).toNat
          rw [List.getD_eq_getElem?_getD, hy6] at h9
          have h8 : y6.length ≤ 2 * k + 1 := h9
          omega
        obtain ⟨A6, c6, he6⟩ := own_slice_k (HN6.out.row hu6 hy6)
        obtain ⟨yl6, hyq6⟩ : ∃ k, y6.length = k := ⟨_, rfl⟩
        rw [hyq6] at he6 hyl6
        subst he6
        have HYQ6 := Lib.hid hyq6
        have HC6 : Hid (∀ wz, Below W6.heap.size W6 wz → (wz.cell? ⟨bs, 1, none⟩ = some (.slice (some ⟨gu, 0, none⟩) n n) ∧ wz.cell? ⟨bx, 2, none⟩ = some (.int .i64 z2) ∧ wz.cell? ⟨gu, (z2 / 2).toNat, none⟩ = some (.slice A6 yl6 c6)) ∧ wz.ownsRow (w.heap.size + 4) 3 1 (.slice A6 yl6 c6) yl6 (y6.map (Value.int .i64))) := Lib.hid (fun wz hb => by
          have hx := HN6.out.on hb
          have hbk := HG6.out.below hb HG6.out.lt
          have h9 := hx.row HUY6.out.1 HUY6.out.2
          rw [HYQ6.out] at h9
          have h8 := hx.us.cell (z2 / 2).toNat
          rw [List.getElem?_toArray, HUY6.out.1] at h8
          exact ⟨⟨hx.box.cell 1, hbk.cell 2, h8⟩, h9⟩)
        have HD6 : Hid (Below W6.heap.size W6 W6.drew) := Lib.hid (Below.refl _ _).drew
        have HW6 : Hid (∀ w3, (W6.drew.alloc (.cells #[.int .i64 (k : Int)] 3)).grownBy w3 (Value.slice A6 yl6 c6).ownBlock → (w3.cell? ⟨bs, 1, none⟩ = some (.slice (some ⟨gu, 0, none⟩) n n) ∧ w3.cell? ⟨bx, 2, none⟩ = some (.int .i64 z2)) ∧ (∀ v9, (w3.setCell ⟨gu, (z2 / 2).toNat, none⟩ v9).cell? ⟨bs, 1, none⟩ = some (.slice (some ⟨gu, 0, none⟩) n n) ∧ (w3.setCell ⟨gu, (z2 / 2).toNat, none⟩ v9).cell? ⟨bx, 2, none⟩ = some (.int .i64 z2)) ∧ w3.cell? ⟨gu, (z2 / 2).toNat, none⟩ = some (.slice A6 yl6 c6) ∧ w3.frozen? ⟨gu, (z2 / 2).toNat, none⟩ = false ∧ gu < w3.heap.size) := Lib.hid (fun w3 hg => by
          have hx := HN6.out.on (HD6.out.alloc (Nat.le_refl _) (.cells #[.int .i64 (k : Int)] 3))
          have hrow := hx.row HUY6.out.1 HUY6.out.2
          have kk : ∀ (q : Nat) (t : TypeId) (ar : Array Value), Blk (W6.drew.alloc (.cells #[.int .i64 (k : Int)] 3)) q t ar → t ≠ 3 → Blk w3 q t ar := fun q t ar hb hne => hb.grown hg (fun e => own_blk_ne hrow hb (Ne.symm hne) e.symm)
          have b1 := kk _ _ _ hx.box (by decide)
          have b2 := kk _ _ _ (HG6.out.below (HD6.out.alloc (Nat.le_refl _) (.cells #[.int .i64 (k : Int)] 3)) HG6.out.lt) (by decide)
          have b3 := kk _ _ _ hx.us (by decide)
          have h8 := b3.cell (z2 / 2).toNat
          rw [List.getElem?_toArray, HUY6.out.1] at h8
          refine ⟨⟨b1.cell 1, b2.cell 2⟩, fun v9 => ⟨(Blk.far b1 (p := ⟨gu, (z2 / 2).toNat, none⟩) (by simpa using hx.ne.1) v9).cell 1, (Blk.far b2 (p := ⟨gu, (z2 / 2).toNat, none⟩) (by simpa using HNE.out) v9).cell 2⟩, h8, b3.frozen _, b3.lt⟩)
        have hsz6 : w.heap.size + 4 ≤ W6.heap.size := HN6.out.sz
        have hzd6 : 0 ≤ z2 / 2 := by omega
        have hzn6 : z2 / 2 < (n : Int) := by have := HNM.out; omega
        have hzw6 : IntKind.i64.wrap (z2 / 2) = z2 / 2 := by simp [IntKind.wrap, IntKind.bits, IntKind.signed]; omega
        have hzt6 := tdiv_nn (b := 2) hz20
        clear hu6 hy6 hyq6
        refine wp_region_T (by kernel_rfl) (fun w' => w'.cell? ⟨bs, 1, none⟩ = some (.slice (some ⟨gu, 0, none⟩) n n) ∧ w'.cell? ⟨bx, 2, none⟩ = some (.int .i64 z2) ∧ w'.cell? ⟨gu, (z2 / 2).toNat, none⟩ = some (.slice A6 yl6 c6)) 19 ?_
        have hHeld := (HC6.out _ HD6.out).1
        refine wpAnyT_take (i := 0) (oi := { dst := some 47, op := Op.move (Operand.tmp 5), type := 48, pos := "spread.go:22", after := #[], guard := none }) (v := ?v0r6) rfl (by kernel_rfl) (fun _ _ _ h => h) (by rfl) hHeld ?h0r6 ?_
        case h0r6 => (intro w' hSw; (try dsimp only at hSw); go_simp; try with_reducible rfl)
        (try simp only [Act.put, List.setIfInBounds_toArray, List.set_cons_zero, List.set_cons_succ])
        refine wpAnyT_take (i := 1) (oi := { dst := some 48, op := Op.nilCheck (Operand.tmp 47), type := 0, pos := "spread.go:22", after := #[{ on := 0, ground := Ground.data }], guard := none }) (v := ?v1r6) rfl (by kernel_rfl) (fun _ _ _ h => h) (by rfl) hHeld ?h1r6 ?_
        case h1r6 => (intro w' hSw; (try dsimp only at hSw); go_simp; try with_reducible rfl)
        (try simp only [Act.put, List.setIfInBounds_toArray, List.set_cons_zero, List.set_cons_succ])
        refine wpAnyT_take (i := 2) (oi := { dst := some 49, op := Op.fieldAddr 55 (Operand.tmp 48) 1, type := 0, pos := "spread.go:22", after := #[{ on := 1, ground := Ground.data }], guard := none }) (v := ?v2r6) rfl (by kernel_rfl) (fun _ _ _ h => h) (by rfl) hHeld ?h2r6 ?_
        case h2r6 => (intro w' hSw; (try dsimp only at hSw); go_simp; try with_reducible rfl)
        (try simp only [Act.put, List.setIfInBounds_toArray, List.set_cons_zero, List.set_cons_succ])
        refine wpAnyT_take (i := 3) (oi := { dst := some 50, op := Op.load 24 (Operand.tmp 49), type := 24, pos := "spread.go:22", after := #[{ on := 2, ground := Ground.data }], guard := none }) (v := ?v3r6) rfl (by kernel_rfl) (fun _ _ _ h => h) (by rfl) hHeld ?h3r6 ?_
        case h3r6 => (intro w' hSw; (try dsimp only at hSw); go_simp; try with_reducible rfl)
        (try simp only [Act.put, List.setIfInBounds_toArray, List.set_cons_zero, List.set_cons_succ])
        refine wpAnyT_take (i := 4) (oi := { dst := some 51, op := Op.fieldAddr 45 (Operand.tmp 7) 2, type := 0, pos := "spread.go:22", after := #[], guard := none }) (v := ?v4r6) rfl (by kernel_rfl) (fun _ _ _ h => h) (by rfl) hHeld ?h4r6 ?_
        case h4r6 => (intro w' hSw; (try dsimp only at hSw); go_simp; try with_reducible rfl)
        (try simp only [Act.put, List.setIfInBounds_toArray, List.set_cons_zero, List.set_cons_succ])
        refine wpAnyT_take (i := 5) (oi := { dst := some 52, op := Op.load 3 (Operand.tmp 51), type := 3, pos := "spread.go:22", after := #[{ on := 4, ground := Ground.data }], guard := none }) (v := ?v5r6) rfl (by kernel_rfl) (fun _ _ _ h => h) (by rfl) hHeld ?h5r6 ?_
        case h5r6 => (intro w' hSw; (try dsimp only at hSw); go_simp; try with_reducible rfl)
        (try simp only [Act.put, List.setIfInBounds_toArray, List.set_cons_zero, List.set_cons_succ])
        refine wpAnyT_take (i := 6) (oi := { dst := some 53, op := Op.binOp BinOp.quo 3 (Operand.tmp 52) (Operand.const (Value.int IntKind.i64 2)) 3, type := 3, pos := "spread.go:22", after := #[{ on := 5, ground := Ground.data }], guard := none }) (v := ?v6r6) rfl (by kernel_rfl) (fun _ _ _ h => h) (by rfl) hHeld ?h6r6 ?_
        case h6r6 => (intro w' hSw; (try dsimp only at hSw); go_simp; try with_reducible rfl)
        (try simp only [Act.put, List.setIfInBounds_toArray, List.set_cons_zero, List.set_cons_succ])
        refine wpAnyT_take (i := 7) (oi := { dst := some 54, op := Op.move (Operand.tmp 5), type := 48, pos := "spread.go:22", after := #[], guard := none }) (v := ?v7r6) rfl (by kernel_rfl) (fun _ _ _ h => h) (by rfl) hHeld ?h7r6 ?_
        case h7r6 => (intro w' hSw; (try dsimp only at hSw); go_simp; try with_reducible rfl)
        (try simp only [Act.put, List.setIfInBounds_toArray, List.set_cons_zero, List.set_cons_succ])
        refine wpAnyT_take (i := 8) (oi := { dst := some 55, op := Op.nilCheck (Operand.tmp 54), type := 0, pos := "spread.go:22", after := #[{ on := 7, ground := Ground.data }], guard := none }) (v := ?v8r6) rfl (by kernel_rfl) (fun _ _ _ h => h) (by rfl) hHeld ?h8r6 ?_
        case h8r6 => (intro w' hSw; (try dsimp only at hSw); go_simp; try with_reducible rfl)
        (try simp only [Act.put, List.setIfInBounds_toArray, List.set_cons_zero, List.set_cons_succ])
        refine wpAnyT_take (i := 9) (oi := { dst := some 56, op := Op.fieldAddr 55 (Operand.tmp 55) 1, type := 0, pos := "spread.go:22", after := #[{ on := 8, ground := Ground.data }], guard := none }) (v := ?v9r6) rfl (by kernel_rfl) (fun _ _ _ h => h) (by rfl) hHeld ?h9r6 ?_
        case h9r6 => (intro w' hSw; (try dsimp only at hSw); go_simp; try with_reducible rfl)
        (try simp only [Act.put, List.setIfInBounds_toArray, List.set_cons_zero, List.set_cons_succ])
        refine wpAnyT_take (i := 10) (oi := { dst := some 57, op := Op.load 24 (Operand.tmp 56), type := 24, pos := "spread.go:22", after := #[{ on := 9, ground := Ground.data }], guard := none }) (v := ?v10r6) rfl (by kernel_rfl) (fun _ _ _ h => h) (by rfl) hHeld ?h10r6 ?_
        case h10r6 => (intro w' hSw; (try dsimp only at hSw); go_simp; try with_reducible rfl)
        (try simp only [Act.put, List.setIfInBounds_toArray, List.set_cons_zero, List.set_cons_succ])
        refine wpAnyT_take (i := 11) (oi := { dst := some 58, op := Op.fieldAddr 45 (Operand.tmp 7) 2, type := 0, pos := "spread.go:22", after := #[], guard := none }) (v := ?v11r6) rfl (by kernel_rfl) (fun _ _ _ h => h) (by rfl) hHeld ?h11r6 ?_
        case h11r6 => (intro w' hSw; (try dsimp only at hSw); go_simp; try with_reducible rfl)
        (try simp only [Act.put, List.setIfInBounds_toArray, List.set_cons_zero, List.set_cons_succ])
        refine wpAnyT_take (i := 12) (oi := { dst := some 59, op := Op.load 3 (Operand.tmp 58), type := 3, pos := "spread.go:22", after := #[{ on := 11, ground := Ground.data }], guard := none }) (v := ?v12r6) rfl (by kernel_rfl) (fun _ _ _ h => h) (by rfl) hHeld ?h12r6 ?_
        case h12r6 => (intro w' hSw; (try dsimp only at hSw); go_simp; try with_reducible rfl)
        (try simp only [Act.put, List.setIfInBounds_toArray, List.set_cons_zero, List.set_cons_succ])
        refine wpAnyT_take (i := 13) (oi := { dst := some 60, op := Op.binOp BinOp.quo 3 (Operand.tmp 59) (Operand.const (Value.int IntKind.i64 2)) 3, type := 3, pos := "spread.go:22", after := #[{ on := 12, ground := Ground.data }], guard := none }) (v := ?v13r6) rfl (by kernel_rfl) (fun _ _ _ h => h) (by rfl) hHeld ?h13r6 ?_
        case h13r6 => (intro w' hSw; (try dsimp only at hSw); go_simp; try with_reducible rfl)
        (try simp only [Act.put, List.setIfInBounds_toArray, List.set_cons_zero, List.set_cons_succ])
        refine wpAnyT_take (i := 14) (oi := { dst := some 61, op := Op.indexAddr 24 (Operand.tmp 57) (Operand.tmp 60), type := 0, pos := "spread.go:22", after := #[{ on := 10, ground := Ground.data }, { on := 13, ground := Ground.data }], guard := none }) (v := ?v14r6) rfl (by kernel_rfl) (fun _ _ _ h => h) (by rfl) hHeld ?h14r6 ?_
        case h14r6 => (intro w' hSw; (try dsimp only at hSw); go_simp; try with_reducible rfl)
        (try simp only [Act.put, List.setIfInBounds_toArray, List.set_cons_zero, List.set_cons_succ])
        refine wpAnyT_take (i := 15) (oi := { dst := some 62, op := Op.load 22 (Operand.tmp 61), type := 22, pos := "spread.go:22", after := #[{ on := 14, ground := Ground.data }], guard := none }) (v := ?v15r6) rfl (by kernel_rfl) (fun _ _ _ h => h) (by rfl) hHeld ?h15r6 ?_
        case h15r6 => (intro w' hSw; (try dsimp only at hSw); go_simp; try with_reducible rfl)
        (try simp only [Act.put, List.setIfInBounds_toArray, List.set_cons_zero, List.set_cons_succ])
        refine wpAnyT_take (i := 16) (oi := { dst := some 63, op := Op.move (Operand.tmp 6), type := 3, pos := "spread.go:22", after := #[], guard := none }) (v := ?v16r6) rfl (by kernel_rfl) (fun _ _ _ h => h) (by rfl) hHeld ?h16r6 ?_
        case h16r6 => (intro w' hSw; (try dsimp only at hSw); go_simp; try with_reducible rfl)
        (try simp only [Act.put, List.setIfInBounds_toArray, List.set_cons_zero, List.set_cons_succ])
        clear hHeld
        refine wpAnyT_one (i := 17) (o := { dst := some 64, op := Op.buildSlice 22 1 #[(0, Operand.tmp 63)], type := 22, pos := "spread.go:22", after := #[{ on := 16, ground := Ground.data }], guard := none }) rfl (by kernel_rfl) (fun K hK => ?_)
        go_simp
        refine hK.out _ _ (fun _ => (HC6.out _ (HD6.out.alloc (Nat.le_refl _) _)).1) ?_
        clear hK K
        (try simp only [Act.put, List.setIfInBounds_toArray, List.set_cons_zero, List.set_cons_succ])
        refine wpAnyT_one (i := 18) (o := { dst := some 65, op := Op.call { callee := Callee.builtin Builtin.append, args := #[Operand.tmp 62, Operand.tmp 64], argTypes := #[22, 22] }, type := 22, pos := "spread.go:22", after := #[{ on := 15, ground := Ground.data }, { on := 17, ground := Ground.data }], guard := none }) rfl (by kernel_rfl) (fun K hK => ?_)
        refine step_append_any _ rfl (.tmp 62) (.tmp 64) _ rfl (w.heap.size + 4) 3 i0 _ 1 8 Tryz.underlying22 HI0.out.1 HI0.out.2.1 HI0.out.2.2.1 HI0.out.2.2.2 rfl (by omega) (.slice A6 yl6 c6) yl6 (y6.map (Value.int .i64)) (by first | rfl | (simp [Act.eval])) (HC6.out _ (HD6.out.alloc (Nat.le_refl _) _)).2 (W6.heap.size + 1) (some ⟨W6.heap.size, 0, none⟩) 1 1 [.int .i64 (k : Int)] (by first | rfl | (simp [Act.eval])) (reads_one _ _ _) (by simp [Value.oneCell']) (by simp only [maxLen]; omega) (by omega) (by first | (simp; done) | (simp; omega) | (simp at hsz6 ⊢; omega)) ?_
        intro v6 w6 hown6 hg6 hat6
        obtain ⟨B6, k6, hf6⟩ := own_slice_k hown6
        subst hf6
        obtain ⟨⟨q1, q2⟩, _, q3, qf, ql⟩ := HW6.out _ hg6
        refine hK.out _ _ (fun _ => ⟨q1, q2, q3⟩) ?_
        clear hK K
        (try simp only [Act.put, List.setIfInBounds_toArray, List.set_cons_zero, List.set_cons_succ])
        have HO6 := Lib.hid hown6
        have HGR6 := Lib.hid hg6
        have HAT6 := Lib.hid hat6
        clear hown6 hg6 hat6
        refine wpAnyT_one (i := 19) (o := { dst := some 66, op := Op.indexAddr 24 (Operand.tmp 50) (Operand.tmp 53), type := 0, pos := "spread.go:22", after := #[{ on := 3, ground := Ground.data }, { on := 6, ground := Ground.data }, { on := 0, ground := Ground.phase }, { on := 1, ground := Ground.phase }, { on := 2, ground := Ground.phase }, { on := 3, ground := Ground.phase }, { on := 4, ground := Ground.phase }, { on := 5, ground := Ground.phase }, { on := 6, ground := Ground.phase }, { on := 7, ground := Ground.phase }, { on := 8, ground := Ground.phase }, { on := 9, ground := Ground.phase }, { on := 10, ground := Ground.phase }, { on := 11, ground := Ground.phase }, { on := 12, ground := Ground.phase }, { on := 13, ground := Ground.phase }, { on := 14, ground := Ground.phase }, { on := 15, ground := Ground.phase }, { on := 16, ground := Ground.phase }, { on := 17, ground := Ground.phase }, { on := 18, ground := Ground.phase }], guard := none }) rfl (by kernel_rfl) (fun K hK => ?_)
        go_simp
        refine hK.out _ _ (fun h => absurd h (by decide)) ?_
        clear hK K
        (try simp only [Act.put, List.setIfInBounds_toArray, List.set_cons_zero, List.set_cons_succ])
        refine wpAnyT_one (i := 20) (o := { dst := none, op := Op.store 22 (Operand.tmp 66) (Operand.tmp 65), type := 0, pos := "spread.go:22", after := #[{ on := 19, ground := Ground.data }, { on := 18, ground := Ground.data }, { on := 18, ground := Ground.chain }, { on := 0, ground := Ground.phase }, { on := 1, ground := Ground.phase }, { on := 2, ground := Ground.phase }, { on := 3, ground := Ground.phase }, { on := 4, ground := Ground.phase }, { on := 5, ground := Ground.phase }, { on := 6, ground := Ground.phase }, { on := 7, ground := Ground.phase }, { on := 8, ground := Ground.phase }, { on := 9, ground := Ground.phase }, { on := 10, ground := Ground.phase }, { on := 11, ground := Ground.phase }, { on := 12, ground := Ground.phase }, { on := 13, ground := Ground.phase }, { on := 14, ground := Ground.phase }, { on := 15, ground := Ground.phase }, { on := 16, ground := Ground.phase }, { on := 17, ground := Ground.phase }, { on := 18, ground := Ground.phase }], guard := none }) rfl (by kernel_rfl) (fun K hK => ?_)
        go_simp
        refine hK.out _ _ (fun h => absurd h (by decide)) ?_
        clear hK K
        (try simp only [Act.put, List.setIfInBounds_toArray, List.set_cons_zero, List.set_cons_succ])
        refine wpAnyT_done (by kernel_rfl) ?_
        have happ6 := (HN6.out.on (HD6.out.alloc (Nat.le_refl _) (.cells #[.int .i64 (k : Int)] 3))).app (i := (k : Int)) HUY6.out.1 HUY6.out.2 (by rw [HYQ6.out]; exact HO6.out) HGR6.out (by rcases HAT6.out with e | e; exact .inl e; exact .inr e)
        have HN7 := Lib.hid happ6.1
        have HG7 := Lib.hid ((happ6.2 _ _ _ (HG6.out.below (HD6.out.alloc (Nat.le_refl _) (.cells #[.int .i64 (k : Int)] 3)) HG6.out.lt) (by decide)).2 HNE.out)
        clear happ6 q1 q2 q3 qf ql
        have hus7 : (addU (usersN C n k) (z1 / 2).toNat (k : Int)).set (z2 / 2).toNat (y6 ++ [(k : Int)]) = usersN C n (k + 1) := by
          rw [HUS.out, addU_of HUY6.out.2]
        rw [hus7] at HN7
        clear hus7
        go_wp2
        go_roundg (nA - (k + 1))
        case measure => omega
        case rel => exact ⟨k + 1, _, by omega, by go_num, rfl, HN7.out⟩
      · have hke : k = nA := by omega
        subst hke
        have hsp := hnw.sp HT.out.1 HT.out.2 hn1
        have HSP := Lib.hid (And.intro hnw.below hsp)
        clear hnw hsp
        go_wp2
        go_ret
        first
          | exact ⟨bs, gh, _, vs, rfl, HSP.out.1, HSP.out.2⟩
          | exact ⟨bs, rfl, HSP.out.1, gh, _, vs, HSP.out.2⟩
end Go.Proofs.YtbeaicmjohlboaaGreatDoor

/- The contract of Copy: a circuit of new lists, each in a block of its own. -/
import Derived.Test.YtdladffjenfikaaCopyR
import Derived.Laws.Tables
import Derived.Deep.RegionWith
namespace Go.Proofs.Ytdladffjenfikaa
open Go.RowKit

theorem own_base {w : World} {B B' n size : Nat} {t : TypeId} {v : Value} {xs : List Value} (h : w.ownsRow B t size v n xs) (hB : B' ≤ B) : w.ownsRow B' t size v n xs := by
  refine ⟨h.1, ?_⟩
  rcases h.2 with h2 | ⟨g, cap, cur, hv, hg, h3⟩
  · exact .inl h2
  · exact .inr ⟨g, cap, cur, hv, by omega, h3⟩
theorem build_circ (m : Int) (A0 : Option Addr) (n0 c0 : Nat) (A1 : Option Addr) (n1 c1 : Nat) (A2 : Option Addr) (n2 c2 : Nat) (A3 : Option Addr) (n3 c3 : Nat) (A4 : Option Addr) (n4 c4 : Nat) (A5 : Option Addr) (n5 c5 : Nat) (A6 : Option Addr) (n6 c6 : Nat) (A7 : Option Addr) (n7 c7 : Nat) (A8 : Option Addr) (n8 c8 : Nat) (A9 : Option Addr) (n9 c9 : Nat) (w : World) : (Instr.build 29 #[(0, .int .i64 m), (1, .slice A0 n0 c0), (2, .slice A1 n1 c1), (3, .slice A2 n2 c2), (4, .slice A3 n3 c3), (5, .slice A4 n4 c4), (6, .slice A5 n5 c5), (7, .slice A6 n6 c6), (8, .slice A7 n7 c7), (9, .slice A8 n8 c8), (10, .slice A9 n9 c9)]).run Try.prog w = .ok (.agg #[.int .i64 m, .slice A0 n0 c0, .slice A1 n1 c1, .slice A2 n2 c2, .slice A3 n3 c3, .slice A4 n4 c4, .slice A5 n5 c5, .slice A6 n6 c6, .slice A7 n7 c7, .slice A8 n8 c8, .slice A9 n9 c9]) w := by kernel_rfl
theorem alloc_circ (w : World) : (Instr.alloc 29 true (.tuple #[])).run Try.prog w = .ok (.pointer (some ⟨w.heap.size, 0, none⟩)) (w.alloc (.cells #[.int .i64 0, .slice none 0 0, .slice none 0 0, .slice none 0 0, .slice none 0 0, .slice none 0 0, .slice none 0 0, .slice none 0 0, .slice none 0 0, .slice none 0 0, .slice none 0 0] 29)) := by kernel_rfl

theorem flat_ints (zs : List Int) : zs.flatMap encI = zs.map (Value.int .i64) := by
  induction zs with
  | nil => rfl
  | cons z r ih => rw [List.flatMap_cons, ih]; rfl
theorem flat_vals (zs : List Value) : zs.flatMap encV = zs := by
  induction zs with
  | nil => rfl
  | cons z r ih => rw [List.flatMap_cons, ih]; rfl
/-- A row of values of the call's own: its cells, and what a store makes of it. -/
theorem own_cells_v {w : World} {B n : Nat} {t : TypeId} {v : Value} {xs : List Value} (h : w.ownsRow B t 1 v n xs) (hn : 0 < n) :
    ∃ g cap, v = .slice (some ⟨g, 0, none⟩) n cap ∧ B ≤ g ∧ g < w.heap.size ∧ n ≤ cap ∧ (∀ k u, xs[k]? = some u → w.cell? ⟨g, k, none⟩ = some u) ∧ (∀ k, w.frozen? ⟨g, k, none⟩ = false) ∧
      (∀ k, k < n → ∀ u : Value, (w.setCell ⟨g, k, none⟩ u).ownsRow B t 1 v n (xs.set k u)) := by
  rcases h.2 with ⟨_, h0⟩ | ⟨g, cap, cur, rfl, hB, hb, h1, h2, h3, h4⟩
  · omega
  have hb' : Blk w g t cur := hb
  refine ⟨g, cap, rfl, hB, hb'.lt, h1, fun k u hu => ?_, fun k => hb'.frozen k, fun k hk u => ?_⟩
  · rw [hb'.cell]
    have hk : k < n := by have := (List.getElem?_eq_some_iff.1 hu).1; rw [h.1] at this; omega
    rw [← h4, List.getElem?_take] at hu
    rw [if_pos (by omega), Array.getElem?_toList] at hu
    exact hu
  · refine ⟨by rw [List.length_set]; exact h.1, .inr ⟨g, cap, cur.setIfInBounds k u, rfl, hB, Blk.set_ hb' k _, h1, h2, by simpa using h3, ?_⟩⟩
    rw [Array.toList_setIfInBounds, ← h4]
    simp [List.take_set]
theorem Fam.snoc {w w' : World} {B : Nat} {R : List (Value × List Int)} {v : Value} {l : List Int} (h : Fam w B R) (hb : Below w.heap.size w w') (hB : B ≤ w.heap.size) (ho : w'.ownsRow w.heap.size 3 1 v l.length (l.map (Value.int .i64))) : Fam w' B (R ++ [(v, l)]) := by
  have hnew : ∀ (i : Nat) (a : Value × List Int), R[i]? = some a → Apart a (v, l) := fun i a hi g hg hg' => by
    have h1 := ((h.own a (List.mem_of_getElem? hi)).lt g hg).2
    have h2 := (ho.lt g hg').1
    omega
  have hget : ∀ (i : Nat) (a : Value × List Int), (R ++ [(v, l)])[i]? = some a → (R[i]? = some a ∧ i < R.length) ∨ (a = (v, l) ∧ i = R.length) := by
    intro i a hi
    by_cases hl : i < R.length
    · rw [List.getElem?_append_left hl] at hi
      exact .inl ⟨hi, hl⟩
    · have := (List.getElem?_eq_some_iff.1 hi).1
      simp at this
      have e : i = R.length := by omega
      subst e
      simp at hi
      exact .inr ⟨hi.symm, rfl⟩
  refine ⟨fun p hp => ?_, fun i j a b hij hi hj => ?_⟩
  · rcases List.mem_append.1 hp with hp | hp
    · exact own_below (h.own p hp) hb
    · simp only [List.mem_singleton] at hp
      subst hp
      exact own_base ho hB
  · rcases hget i a hi with ⟨h1, h2⟩ | ⟨rfl, e1⟩
    · rcases hget j b hj with ⟨h3, h4⟩ | ⟨rfl, e2⟩
      · exact h.apart i j a b hij h1 h3
      · exact hnew i a h1
    · rcases hget j b hj with ⟨h3, h4⟩ | ⟨rfl, e2⟩
      · exact (hnew j b h3).symm
      · exact absurd (e1.trans e2.symm) hij
theorem fam_of_pair {w : World} {B : Nat} {R : List (Value × List Int)} (ho : ∀ p ∈ R, w.ownsRow B 3 1 p.1 p.2.length (p.2.map (Value.int .i64))) (hp : (R.map (·.1)).Pairwise (fun x y => ∀ g, x.ownBlock = some g → y.ownBlock ≠ some g)) : Fam w B R := by
  refine ⟨ho, fun i j a b hij hi hj => ?_⟩
  have key : ∀ (i j : Nat) (a b : Value × List Int), i < j → R[i]? = some a → R[j]? = some b → Apart a b := by
    intro i j a b hlt hi hj
    obtain ⟨hil, rfl⟩ := List.getElem?_eq_some_iff.1 hi
    obtain ⟨hjl, rfl⟩ := List.getElem?_eq_some_iff.1 hj
    have := List.pairwise_iff_getElem.1 hp i j (by simpa using hil) (by simpa using hjl) hlt
    simpa [Apart] using this
  rcases Nat.lt_or_gt_of_ne hij with h | h
  · exact key i j a b h hi hj
  · exact (key j i b a h hj hi).symm
abbrev five (V : CV) (C : Circ) : List (Value × List Int) := [(V.i, C.inputs), (V.o, C.outputs), (V.b, C.bads), (V.c, C.constraints), (V.f, C.fairness)]
/-- A circuit of new lists: us are the values of the justice's own lists. -/
structure Cop (w : World) (B : Nat) (V : CV) (us : List Value) (C : Circ) : Prop where
  fam : Fam w B (five V C ++ us.zip C.justice)
  ul : us.length = C.justice.length
  j : w.ownsRow B 22 1 V.j us.length us
  l : w.ownsRow B 61 3 V.l C.latches.length (C.latches.flatMap encT)
  a : w.ownsRow B 64 3 V.a C.ands.length (C.ands.flatMap encT)
  s : w.ownsRow B 116 3 V.s C.symbols.length (C.symbols.flatMap encS)
  t : w.ownsRow B 9 1 V.t C.comments.length (C.comments.flatMap encB)
/-- In the midst of the justice's own lists. -/
structure CpyL (w wx : World) (b : Nat) (V : CV) (C : Circ) (vs us : List Value) (q : Nat) : Prop where
  below : Below w.heap.size w wx
  box : Blk wx b 29 (V.cells C.max)
  res : Blk wx (w.heap.size + 1) 29 #[.int .i64 0, .slice none 0 0, .slice none 0 0, .slice none 0 0, .slice none 0 0, .slice none 0 0, .slice none 0 0, .slice none 0 0, .slice none 0 0, .slice none 0 0, .slice none 0 0]
  len : us.length = q
  fam : Fam wx w.heap.size (five V C ++ us.zip C.justice)
  j : wx.ownsRow w.heap.size 22 1 V.j vs.length (us ++ vs.drop q)
  l : wx.ownsRow w.heap.size 61 3 V.l C.latches.length (C.latches.flatMap encT)
  a : wx.ownsRow w.heap.size 64 3 V.a C.ands.length (C.ands.flatMap encT)
  s : wx.ownsRow w.heap.size 116 3 V.s C.symbols.length (C.symbols.flatMap encS)
  t : wx.ownsRow w.heap.size 9 1 V.t C.comments.length (C.comments.flatMap encB)
theorem zip_snoc {α β : Type} : ∀ (us : List α) (ys : List β) (u : α) (y : β), ys[us.length]? = some y → (us ++ [u]).zip ys = us.zip ys ++ [(u, y)]
  | [], [], _, _, h => by simp at h
  | [], y :: ys, u, y', h => by simp at h; subst h; simp
  | _ :: _, [], _, _, h => by simp at h
  | a :: us, y :: ys, u, y', h => by simp at h; simp [zip_snoc us ys u y' h]
theorem CpyL.step {w wx w5 : World} {b gj cap : Nat} {V : CV} {C : Circ} {vs us : List Value} {q : Nat} {v' : Value} {zs : List Int} (h : CpyL w wx b V C vs us q) (_hb : w.heap.size ≤ b) (hq : q < vs.length) (hz : C.justice[q]? = some zs) (hV : V.j = .slice (some ⟨gj, 0, none⟩) vs.length cap)
    (hbel : Below wx.heap.size wx w5) (ho : w5.ownsRow wx.heap.size 3 1 v' zs.length (zs.flatMap encI)) : CpyL w (w5.setCell ⟨gj, q, none⟩ v') b V C vs (us ++ [v']) (q + 1) := by
  have hj5 := own_below h.j hbel
  obtain ⟨g, cap', hv, hBg, hglt, _, _, _, hset⟩ := own_cells_v hj5 (by omega)
  rw [hV] at hv
  injection hv with e1 e2 e3
  injection e1 with e1
  injection e1 with e1
  subst e1 e3
  have hbw : w.heap.size ≤ wx.heap.size := h.below.size
  have hblk : ∃ cs, Blk w5 gj 22 cs := by
    rcases hj5.2 with ⟨_, h0⟩ | ⟨g', cap2, cur, hv', _, hh, _⟩
    · omega
    · rw [hV] at hv'
      injection hv' with e1
      injection e1 with e1
      injection e1 with e1
      subst e1
      exact ⟨cur, hh⟩
  obtain ⟨cs, hblk⟩ := hblk
  have hk : ∀ {t : TypeId} {k n B : Nat} {v : Value} {xs : List Value}, w5.ownsRow B t k v n xs → t ≠ 22 → (w5.setCell ⟨gj, q, none⟩ v').ownsRow B t k v n xs := fun ho ht =>
    own_of_block ho fun g hg => Below.heap_setCell _ _ _ _ (fun e => own_blk_ne ho hblk ht (by rw [hg, e]))
  have hbx := h.box.below hbel h.box.lt
  have hrs := h.res.below hbel h.res.lt
  have hf := h.fam.snoc hbel hbw (by rw [← flat_ints]; exact ho)
  refine ⟨(h.below.trans ⟨hbel.os, hbel.tape, hbel.output, hbel.size, fun k hk => hbel.block k (by omega)⟩).setCell hBg _, Blk.far hbx (fun e => hbx.ne_ hblk (by decide) e) _, Blk.far hrs (fun e => hrs.ne_ hblk (by decide) e) _, by simp [h.len], ?_, ?_, hk (own_below h.l hbel) (by decide), hk (own_below h.a hbel) (by decide), hk (own_below h.s hbel) (by decide), hk (own_below h.t hbel) (by decide)⟩
  · rw [zip_snoc us C.justice v' zs (by rw [h.len]; exact hz), ← List.append_assoc]
    exact ⟨fun p hp => hk (hf.own p hp) (by decide), hf.apart⟩
  · have := hset q hq v'
    have e : (us ++ vs.drop q).set q v' = us ++ [v'] ++ vs.drop (q + 1) := by
      rw [List.set_append_right _ _ (by rw [h.len]; exact Nat.le_refl _), h.len, Nat.sub_self]
      obtain ⟨u, hu⟩ : ∃ u, vs[q]? = some u := ⟨_, List.getElem?_eq_getElem hq⟩
      rw [drop_one hu]
      simp
    rw [e] at this
    exact this
theorem wpOp_of {P : Program} {ops : Array Oper} {Q : Exit → Act → World → Prop} {i : Nat} {K : Act → World → Prop} {a : Act} {w : World} {o : Oper} (ho : ops[i]? = some o) (hg : o.guard = none) (h : o.wp P a w K Q) : wpOp P ops Q i K a w := by
  unfold wpOp
  simp only [ho]
  rw [if_pos (by simp [Region.wanted, hg])]
  exact .inl h
set_option maxHeartbeats 4000000 in
set_option maxRecDepth 100000 in
theorem Copy_any (w : World) (V : CV) (C : Circ) (h : C.In w V) (_hm : I64 C.max) (hr : C.Room) :
    Calls Try.prog 58 #[V.val C.max] w fun e w' => ∃ V' us, e = .returned (CV.val V' C.max) ∧ Below w.heap.size w w' ∧ Cop w' w.heap.size V' us C := by
  obtain ⟨vs, hj1, hj2, hj3⟩ := h.j
  have HJ3 := Lib.hid hj3
  have hsl : ∀ u ∈ vs, ∃ A n c, u = .slice A n c := fun u hu => by
    obtain ⟨i, hi⟩ := List.getElem?_of_mem hu
    obtain ⟨zs, hzs⟩ : ∃ zs, C.justice[i]? = some zs := ⟨_, List.getElem?_eq_getElem (by rw [← hj2]; exact (List.getElem?_eq_some_iff.1 hi).1)⟩
    obtain ⟨A, c, e, _⟩ := hj3 i u zs hi hzs
    exact ⟨A, _, c, e⟩
  have HSL := Lib.hid hsl
  have HR := Lib.hid hr
  have HJ := Lib.hid hj1
  have HJL := Lib.hid hj2
  have H := Lib.hid h
  clear h hr hj1 hj2 hj3 hsl
  go_enter Try.func58, Try.ntmps58
  go_wp2
  refine region_lit ?_
  intro ops hops
  have HBA : (webB ops && acyB ops && (ops.size == 34 + 1) && Region.sinkB .any ops 34 && (List.range (34 + 1)).all fun j => !Region.waitsFor .any ops j 34) = true := by rw [hops]; kernel_rfl
  have HB : webB ops = true := by rw [hops]; kernel_rfl
  have HND : ∀ j, j < ops.size → dstOf ops j ≠ some 1 := noDst_spec (by rw [hops]; kernel_rfl)
  obtain ⟨w0, hw0⟩ : ∃ w0 : World, w0 = { (w.alloc (.cells (V.cells C.max) 29)).alloc (.cells #[.int .i64 0, .slice none 0 0, .slice none 0 0, .slice none 0 0, .slice none 0 0, .slice none 0 0, .slice none 0 0, .slice none 0 0, .slice none 0 0, .slice none 0 0, .slice none 0 0] 29) with drawn := ((w.alloc (.cells (V.cells C.max) 29)).alloc (.cells #[.int .i64 0, .slice none 0 0, .slice none 0 0, .slice none 0 0, .slice none 0 0, .slice none 0 0, .slice none 0 0, .slice none 0 0, .slice none 0 0, .slice none 0 0, .slice none 0 0] 29)).drawn + 1 } := ⟨_, rfl⟩
  have hb0 : Below w.heap.size w w0 := by
    rw [hw0]
    exact (((Below.refl _ w).alloc (Nat.le_refl _) _).alloc (by simp) _).drew
  have hx0 : Blk w0 w.heap.size 29 (V.cells C.max) := by
    rw [hw0]
    exact ((Blk.new w _ _).alloc _).drew
  have hs0 : w0.heap.size = w.heap.size + 1 + 1 := by rw [hw0]; simp
  have HIN : ∀ wz, Below w0.heap.size w0 wz → C.In wz V := fun wz hb => (H.out.below hb0).below hb
  have HJZ : ∀ wz, Below w0.heap.size w0 wz → RowE 1 encV wz V.j vs := fun wz hb => (HJ.out.below hb0).below hb
  have HCELL : ∀ wz, Below w0.heap.size w0 wz → ∀ k, wz.cell? ⟨w.heap.size, k, none⟩ = (V.cells C.max)[k]? := fun wz hb k => (hx0.below hb hx0.lt).cell k
  have HSZ : ∀ wz, Below w0.heap.size w0 wz → w.heap.size ≤ wz.heap.size := fun wz hb => by have := hb.size; omega
  refine wp_region_web_tail (by kernel_rfl) 34 HBA (fun w1 w2 => Below w1.heap.size w1 w2) (valL (copyVals w.heap.size w.heap.size V C vs)) freshC sepC copy_sep (fun a => Below.refl _ _) (fun a b c h1 h2 => bt h1 (Nat.le_refl _) h2) copy_keep ?_ ?_
  · intro i o hi ho
    rw [← hw0]
    rw [hops] at ho
    match i, hi, ho with
    | 0, _, ho =>
      simp only [List.getElem?_toArray, List.getElem?_cons_zero, Option.some.injEq] at ho; subst ho
      refine webStep_of HB rfl (fun f aC wz hw hd ha hv hsp K hK => ?_)
      have e1 : aC.eval (.tmp 1) = .pointer (some ⟨w.heap.size, 0, none⟩) := (ha 1 HND).trans rfl
      refine wp_val (v := .pointer (some ⟨w.heap.size, 0, none⟩)) (w' := wz) ?_ (hK _ _ (Below.refl _ _) rfl (fun h => absurd h (by decide)))
      show ((do pure (Next.value (← Instr.fieldAt 29 (aC.eval (.tmp 1)) 0)) : Sem Next)).run Try.prog wz = _
      rw [e1]
      exact run_value (field_0 _ _)
    | 1, _, ho =>
      simp only [List.getElem?_toArray, List.getElem?_cons_zero, List.getElem?_cons_succ, Option.some.injEq] at ho; subst ho
      refine webStep_of HB rfl (fun f aC wz hw hd ha hv hsp K hK => ?_)
      have e1 : aC.eval (.tmp 6) = .pointer (some ⟨w.heap.size, 0, none⟩) := (hd 0 6 (by rw [hops]; kernel_rfl : Region.waitsFor .any ops 1 0 = true) (by rw [hops]; kernel_rfl : dstOf ops 0 = some 6) (by simp)).trans (hv 0 (by rw [hops]; kernel_rfl : Region.waitsFor .any ops 1 0 = true))
      refine wp_val (v := .int .i64 C.max) (w' := wz) ?_ (hK _ _ (Below.refl _ _) rfl (fun h => absurd h (by decide)))
      show ((do pure (Next.value (← Instr.loadAt 3 (aC.eval (.tmp 6)))) : Sem Next)).run Try.prog wz = _
      rw [e1]
      exact run_value (load_at _ load_N (HCELL wz hw 0))
    | 2, _, ho =>
      simp only [List.getElem?_toArray, List.getElem?_cons_zero, List.getElem?_cons_succ, Option.some.injEq] at ho; subst ho
      refine webStep_of HB rfl (fun f aC wz hw hd ha hv hsp K hK => ?_)
      have e1 : aC.eval (.tmp 1) = .pointer (some ⟨w.heap.size, 0, none⟩) := (ha 1 HND).trans rfl
      refine wp_val (v := .pointer (some ⟨w.heap.size, 1, none⟩)) (w' := wz) ?_ (hK _ _ (Below.refl _ _) rfl (fun h => absurd h (by decide)))
      show ((do pure (Next.value (← Instr.fieldAt 29 (aC.eval (.tmp 1)) 1)) : Sem Next)).run Try.prog wz = _
      rw [e1]
      exact run_value (field_1 _ _)
    | 3, _, ho =>
      simp only [List.getElem?_toArray, List.getElem?_cons_zero, List.getElem?_cons_succ, Option.some.injEq] at ho; subst ho
      refine webStep_of HB rfl (fun f aC wz hw hd ha hv hsp K hK => ?_)
      have e1 : aC.eval (.tmp 8) = .pointer (some ⟨w.heap.size, 1, none⟩) := (hd 2 8 (by rw [hops]; kernel_rfl : Region.waitsFor .any ops 3 2 = true) (by rw [hops]; kernel_rfl : dstOf ops 2 = some 8) (by simp)).trans (hv 2 (by rw [hops]; kernel_rfl : Region.waitsFor .any ops 3 2 = true))
      refine wp_val (v := V.i) (w' := wz) ?_ (hK _ _ (Below.refl _ _) rfl (fun h => absurd h (by decide)))
      show ((do pure (Next.value (← Instr.loadAt 22 (aC.eval (.tmp 8)))) : Sem Next)).run Try.prog wz = _
      rw [e1]
      exact run_value (load_at _ load_I (HCELL wz hw 1))
    | 4, _, ho =>
      simp only [List.getElem?_toArray, List.getElem?_cons_zero, List.getElem?_cons_succ, Option.some.injEq] at ho; subst ho
      refine webStep_of HB rfl (fun f aC wz hw hd ha hv hsp K hK => ?_)
      have e1 : aC.eval (.tmp 9) = V.i := (hd 3 9 (by rw [hops]; kernel_rfl : Region.waitsFor .any ops 4 3 = true) (by rw [hops]; kernel_rfl : dstOf ops 3 = some 9) (by simp)).trans (hv 3 (by rw [hops]; kernel_rfl : Region.waitsFor .any ops 4 3 = true))
      refine wp_enter (f := 89) (args := #[V.i]) ?_ ((CloneI_any wz V.i C.inputs (HIN wz hw).i HR.out.i).mono ?_)
      · simp [execOp, resolve, e1]; rfl
      · rintro e w' ⟨v', rfl, hown, hbel⟩
        exact ⟨v', rfl, hK v' w' hbel (own_base hown (HSZ wz hw)) (fun _ g hg => (hown.lt g hg).1)⟩
    | 5, _, ho =>
      simp only [List.getElem?_toArray, List.getElem?_cons_zero, List.getElem?_cons_succ, Option.some.injEq] at ho; subst ho
      refine webStep_of HB rfl (fun f aC wz hw hd ha hv hsp K hK => ?_)
      have e1 : aC.eval (.tmp 1) = .pointer (some ⟨w.heap.size, 0, none⟩) := (ha 1 HND).trans rfl
      refine wp_val (v := .pointer (some ⟨w.heap.size, 2, none⟩)) (w' := wz) ?_ (hK _ _ (Below.refl _ _) rfl (fun h => absurd h (by decide)))
      show ((do pure (Next.value (← Instr.fieldAt 29 (aC.eval (.tmp 1)) 2)) : Sem Next)).run Try.prog wz = _
      rw [e1]
      exact run_value (field_2 _ _)
    | 6, _, ho =>
      simp only [List.getElem?_toArray, List.getElem?_cons_zero, List.getElem?_cons_succ, Option.some.injEq] at ho; subst ho
      refine webStep_of HB rfl (fun f aC wz hw hd ha hv hsp K hK => ?_)
      have e1 : aC.eval (.tmp 11) = .pointer (some ⟨w.heap.size, 2, none⟩) := (hd 5 11 (by rw [hops]; kernel_rfl : Region.waitsFor .any ops 6 5 = true) (by rw [hops]; kernel_rfl : dstOf ops 5 = some 11) (by simp)).trans (hv 5 (by rw [hops]; kernel_rfl : Region.waitsFor .any ops 6 5 = true))
      refine wp_val (v := V.l) (w' := wz) ?_ (hK _ _ (Below.refl _ _) rfl (fun h => absurd h (by decide)))
      show ((do pure (Next.value (← Instr.loadAt 23 (aC.eval (.tmp 11)))) : Sem Next)).run Try.prog wz = _
      rw [e1]
      exact run_value (load_at _ load_L (HCELL wz hw 2))
    | 7, _, ho =>
      simp only [List.getElem?_toArray, List.getElem?_cons_zero, List.getElem?_cons_succ, Option.some.injEq] at ho; subst ho
      refine webStep_of HB rfl (fun f aC wz hw hd ha hv hsp K hK => ?_)
      have e1 : aC.eval (.tmp 12) = V.l := (hd 6 12 (by rw [hops]; kernel_rfl : Region.waitsFor .any ops 7 6 = true) (by rw [hops]; kernel_rfl : dstOf ops 6 = some 12) (by simp)).trans (hv 6 (by rw [hops]; kernel_rfl : Region.waitsFor .any ops 7 6 = true))
      refine wp_enter (f := 90) (args := #[V.l]) ?_ ((CloneL_any wz V.l C.latches (HIN wz hw).l HR.out.l).mono ?_)
      · simp [execOp, resolve, e1]; rfl
      · rintro e w' ⟨v', rfl, hown, hbel⟩
        exact ⟨v', rfl, hK v' w' hbel (own_base hown (HSZ wz hw)) (fun _ g hg => (hown.lt g hg).1)⟩
    | 8, _, ho =>
      simp only [List.getElem?_toArray, List.getElem?_cons_zero, List.getElem?_cons_succ, Option.some.injEq] at ho; subst ho
      refine webStep_of HB rfl (fun f aC wz hw hd ha hv hsp K hK => ?_)
      have e1 : aC.eval (.tmp 1) = .pointer (some ⟨w.heap.size, 0, none⟩) := (ha 1 HND).trans rfl
      refine wp_val (v := .pointer (some ⟨w.heap.size, 3, none⟩)) (w' := wz) ?_ (hK _ _ (Below.refl _ _) rfl (fun h => absurd h (by decide)))
      show ((do pure (Next.value (← Instr.fieldAt 29 (aC.eval (.tmp 1)) 3)) : Sem Next)).run Try.prog wz = _
      rw [e1]
      exact run_value (field_3 _ _)
    | 9, _, ho =>
      simp only [List.getElem?_toArray, List.getElem?_cons_zero, List.getElem?_cons_succ, Option.some.injEq] at ho; subst ho
      refine webStep_of HB rfl (fun f aC wz hw hd ha hv hsp K hK => ?_)
      have e1 : aC.eval (.tmp 14) = .pointer (some ⟨w.heap.size, 3, none⟩) := (hd 8 14 (by rw [hops]; kernel_rfl : Region.waitsFor .any ops 9 8 = true) (by rw [hops]; kernel_rfl : dstOf ops 8 = some 14) (by simp)).trans (hv 8 (by rw [hops]; kernel_rfl : Region.waitsFor .any ops 9 8 = true))
      refine wp_val (v := V.o) (w' := wz) ?_ (hK _ _ (Below.refl _ _) rfl (fun h => absurd h (by decide)))
      show ((do pure (Next.value (← Instr.loadAt 22 (aC.eval (.tmp 14)))) : Sem Next)).run Try.prog wz = _
      rw [e1]
      exact run_value (load_at _ load_I (HCELL wz hw 3))
    | 10, _, ho =>
      simp only [List.getElem?_toArray, List.getElem?_cons_zero, List.getElem?_cons_succ, Option.some.injEq] at ho; subst ho
      refine webStep_of HB rfl (fun f aC wz hw hd ha hv hsp K hK => ?_)
      have e1 : aC.eval (.tmp 15) = V.o := (hd 9 15 (by rw [hops]; kernel_rfl : Region.waitsFor .any ops 10 9 = true) (by rw [hops]; kernel_rfl : dstOf ops 9 = some 15) (by simp)).trans (hv 9 (by rw [hops]; kernel_rfl : Region.waitsFor .any ops 10 9 = true))
      refine wp_enter (f := 89) (args := #[V.o]) ?_ ((CloneI_any wz V.o C.outputs (HIN wz hw).o HR.out.o).mono ?_)
      · simp [execOp, resolve, e1]; rfl
      · rintro e w' ⟨v', rfl, hown, hbel⟩
        exact ⟨v', rfl, hK v' w' hbel (own_base hown (HSZ wz hw)) (fun _ g hg => (hown.lt g hg).1)⟩
    | 11, _, ho =>
      simp only [List.getElem?_toArray, List.getElem?_cons_zero, List.getElem?_cons_succ, Option.some.injEq] at ho; subst ho
      refine webStep_of HB rfl (fun f aC wz hw hd ha hv hsp K hK => ?_)
      have e1 : aC.eval (.tmp 1) = .pointer (some ⟨w.heap.size, 0, none⟩) := (ha 1 HND).trans rfl
      refine wp_val (v := .pointer (some ⟨w.heap.size, 4, none⟩)) (w' := wz) ?_ (hK _ _ (Below.refl _ _) rfl (fun h => absurd h (by decide)))
      show ((do pure (Next.value (← Instr.fieldAt 29 (aC.eval (.tmp 1)) 4)) : Sem Next)).run Try.prog wz = _
      rw [e1]
      exact run_value (field_4 _ _)
    | 12, _, ho =>
      simp only [List.getElem?_toArray, List.getElem?_cons_zero, List.getElem?_cons_succ, Option.some.injEq] at ho; subst ho
      refine webStep_of HB rfl (fun f aC wz hw hd ha hv hsp K hK => ?_)
      have e1 : aC.eval (.tmp 17) = .pointer (some ⟨w.heap.size, 4, none⟩) := (hd 11 17 (by rw [hops]; kernel_rfl : Region.waitsFor .any ops 12 11 = true) (by rw [hops]; kernel_rfl : dstOf ops 11 = some 17) (by simp)).trans (hv 11 (by rw [hops]; kernel_rfl : Region.waitsFor .any ops 12 11 = true))
      refine wp_val (v := V.b) (w' := wz) ?_ (hK _ _ (Below.refl _ _) rfl (fun h => absurd h (by decide)))
      show ((do pure (Next.value (← Instr.loadAt 22 (aC.eval (.tmp 17)))) : Sem Next)).run Try.prog wz = _
      rw [e1]
      exact run_value (load_at _ load_I (HCELL wz hw 4))
    | 13, _, ho =>
      simp only [List.getElem?_toArray, List.getElem?_cons_zero, List.getElem?_cons_succ, Option.some.injEq] at ho; subst ho
      refine webStep_of HB rfl (fun f aC wz hw hd ha hv hsp K hK => ?_)
      have e1 : aC.eval (.tmp 18) = V.b := (hd 12 18 (by rw [hops]; kernel_rfl : Region.waitsFor .any ops 13 12 = true) (by rw [hops]; kernel_rfl : dstOf ops 12 = some 18) (by simp)).trans (hv 12 (by rw [hops]; kernel_rfl : Region.waitsFor .any ops 13 12 = true))
      refine wp_enter (f := 89) (args := #[V.b]) ?_ ((CloneI_any wz V.b C.bads (HIN wz hw).b HR.out.b).mono ?_)
      · simp [execOp, resolve, e1]; rfl
      · rintro e w' ⟨v', rfl, hown, hbel⟩
        exact ⟨v', rfl, hK v' w' hbel (own_base hown (HSZ wz hw)) (fun _ g hg => (hown.lt g hg).1)⟩
    | 14, _, ho =>
      simp only [List.getElem?_toArray, List.getElem?_cons_zero, List.getElem?_cons_succ, Option.some.injEq] at ho; subst ho
      refine webStep_of HB rfl (fun f aC wz hw hd ha hv hsp K hK => ?_)
      have e1 : aC.eval (.tmp 1) = .pointer (some ⟨w.heap.size, 0, none⟩) := (ha 1 HND).trans rfl
      refine wp_val (v := .pointer (some ⟨w.heap.size, 5, none⟩)) (w' := wz) ?_ (hK _ _ (Below.refl _ _) rfl (fun h => absurd h (by decide)))
      show ((do pure (Next.value (← Instr.fieldAt 29 (aC.eval (.tmp 1)) 5)) : Sem Next)).run Try.prog wz = _
      rw [e1]
      exact run_value (field_5 _ _)
    | 15, _, ho =>
      simp only [List.getElem?_toArray, List.getElem?_cons_zero, List.getElem?_cons_succ, Option.some.injEq] at ho; subst ho
      refine webStep_of HB rfl (fun f aC wz hw hd ha hv hsp K hK => ?_)
      have e1 : aC.eval (.tmp 20) = .pointer (some ⟨w.heap.size, 5, none⟩) := (hd 14 20 (by rw [hops]; kernel_rfl : Region.waitsFor .any ops 15 14 = true) (by rw [hops]; kernel_rfl : dstOf ops 14 = some 20) (by simp)).trans (hv 14 (by rw [hops]; kernel_rfl : Region.waitsFor .any ops 15 14 = true))
      refine wp_val (v := V.c) (w' := wz) ?_ (hK _ _ (Below.refl _ _) rfl (fun h => absurd h (by decide)))
      show ((do pure (Next.value (← Instr.loadAt 22 (aC.eval (.tmp 20)))) : Sem Next)).run Try.prog wz = _
      rw [e1]
      exact run_value (load_at _ load_I (HCELL wz hw 5))
    | 16, _, ho =>
      simp only [List.getElem?_toArray, List.getElem?_cons_zero, List.getElem?_cons_succ, Option.some.injEq] at ho; subst ho
      refine webStep_of HB rfl (fun f aC wz hw hd ha hv hsp K hK => ?_)
      have e1 : aC.eval (.tmp 21) = V.c := (hd 15 21 (by rw [hops]; kernel_rfl : Region.waitsFor .any ops 16 15 = true) (by rw [hops]; kernel_rfl : dstOf ops 15 = some 21) (by simp)).trans (hv 15 (by rw [hops]; kernel_rfl : Region.waitsFor .any ops 16 15 = true))
      refine wp_enter (f := 89) (args := #[V.c]) ?_ ((CloneI_any wz V.c C.constraints (HIN wz hw).c HR.out.c).mono ?_)
      · simp [execOp, resolve, e1]; rfl
      · rintro e w' ⟨v', rfl, hown, hbel⟩
        exact ⟨v', rfl, hK v' w' hbel (own_base hown (HSZ wz hw)) (fun _ g hg => (hown.lt g hg).1)⟩
    | 17, _, ho =>
      simp only [List.getElem?_toArray, List.getElem?_cons_zero, List.getElem?_cons_succ, Option.some.injEq] at ho; subst ho
      refine webStep_of HB rfl (fun f aC wz hw hd ha hv hsp K hK => ?_)
      have e1 : aC.eval (.tmp 1) = .pointer (some ⟨w.heap.size, 0, none⟩) := (ha 1 HND).trans rfl
      refine wp_val (v := .pointer (some ⟨w.heap.size, 6, none⟩)) (w' := wz) ?_ (hK _ _ (Below.refl _ _) rfl (fun h => absurd h (by decide)))
      show ((do pure (Next.value (← Instr.fieldAt 29 (aC.eval (.tmp 1)) 6)) : Sem Next)).run Try.prog wz = _
      rw [e1]
      exact run_value (field_6 _ _)
    | 18, _, ho =>
      simp only [List.getElem?_toArray, List.getElem?_cons_zero, List.getElem?_cons_succ, Option.some.injEq] at ho; subst ho
      refine webStep_of HB rfl (fun f aC wz hw hd ha hv hsp K hK => ?_)
      have e1 : aC.eval (.tmp 23) = .pointer (some ⟨w.heap.size, 6, none⟩) := (hd 17 23 (by rw [hops]; kernel_rfl : Region.waitsFor .any ops 18 17 = true) (by rw [hops]; kernel_rfl : dstOf ops 17 = some 23) (by simp)).trans (hv 17 (by rw [hops]; kernel_rfl : Region.waitsFor .any ops 18 17 = true))
      refine wp_val (v := V.j) (w' := wz) ?_ (hK _ _ (Below.refl _ _) rfl (fun h => absurd h (by decide)))
      show ((do pure (Next.value (← Instr.loadAt 24 (aC.eval (.tmp 23)))) : Sem Next)).run Try.prog wz = _
      rw [e1]
      exact run_value (load_at _ load_V (HCELL wz hw 6))
    | 19, _, ho =>
      simp only [List.getElem?_toArray, List.getElem?_cons_zero, List.getElem?_cons_succ, Option.some.injEq] at ho; subst ho
      refine webStep_of HB rfl (fun f aC wz hw hd ha hv hsp K hK => ?_)
      have e1 : aC.eval (.tmp 24) = V.j := (hd 18 24 (by rw [hops]; kernel_rfl : Region.waitsFor .any ops 19 18 = true) (by rw [hops]; kernel_rfl : dstOf ops 18 = some 24) (by simp)).trans (hv 18 (by rw [hops]; kernel_rfl : Region.waitsFor .any ops 19 18 = true))
      refine wp_enter (f := 59) (args := #[V.j]) ?_ ((CloneV_any wz V.j vs (HJZ wz hw) HSL.out (by have := HR.out.j; have := HJL.out; omega)).mono ?_)
      · simp [execOp, resolve, e1]; rfl
      · rintro e w' ⟨v', rfl, hown, hbel⟩
        exact ⟨v', rfl, hK v' w' hbel (own_base hown (HSZ wz hw)) (fun _ g hg => (hown.lt g hg).1)⟩
    | 20, _, ho =>
      simp only [List.getElem?_toArray, List.getElem?_cons_zero, List.getElem?_cons_succ, Option.some.injEq] at ho; subst ho
      refine webStep_of HB rfl (fun f aC wz hw hd ha hv hsp K hK => ?_)
      have e1 : aC.eval (.tmp 1) = .pointer (some ⟨w.heap.size, 0, none⟩) := (ha 1 HND).trans rfl
      refine wp_val (v := .pointer (some ⟨w.heap.size, 7, none⟩)) (w' := wz) ?_ (hK _ _ (Below.refl _ _) rfl (fun h => absurd h (by decide)))
      show ((do pure (Next.value (← Instr.fieldAt 29 (aC.eval (.tmp 1)) 7)) : Sem Next)).run Try.prog wz = _
      rw [e1]
      exact run_value (field_7 _ _)
    | 21, _, ho =>
      simp only [List.getElem?_toArray, List.getElem?_cons_zero, List.getElem?_cons_succ, Option.some.injEq] at ho; subst ho
      refine webStep_of HB rfl (fun f aC wz hw hd ha hv hsp K hK => ?_)
      have e1 : aC.eval (.tmp 26) = .pointer (some ⟨w.heap.size, 7, none⟩) := (hd 20 26 (by rw [hops]; kernel_rfl : Region.waitsFor .any ops 21 20 = true) (by rw [hops]; kernel_rfl : dstOf ops 20 = some 26) (by simp)).trans (hv 20 (by rw [hops]; kernel_rfl : Region.waitsFor .any ops 21 20 = true))
      refine wp_val (v := V.f) (w' := wz) ?_ (hK _ _ (Below.refl _ _) rfl (fun h => absurd h (by decide)))
      show ((do pure (Next.value (← Instr.loadAt 22 (aC.eval (.tmp 26)))) : Sem Next)).run Try.prog wz = _
      rw [e1]
      exact run_value (load_at _ load_I (HCELL wz hw 7))
    | 22, _, ho =>
      simp only [List.getElem?_toArray, List.getElem?_cons_zero, List.getElem?_cons_succ, Option.some.injEq] at ho; subst ho
      refine webStep_of HB rfl (fun f aC wz hw hd ha hv hsp K hK => ?_)
      have e1 : aC.eval (.tmp 27) = V.f := (hd 21 27 (by rw [hops]; kernel_rfl : Region.waitsFor .any ops 22 21 = true) (by rw [hops]; kernel_rfl : dstOf ops 21 = some 27) (by simp)).trans (hv 21 (by rw [hops]; kernel_rfl : Region.waitsFor .any ops 22 21 = true))
      refine wp_enter (f := 89) (args := #[V.f]) ?_ ((CloneI_any wz V.f C.fairness (HIN wz hw).f HR.out.f).mono ?_)
      · simp [execOp, resolve, e1]; rfl
      · rintro e w' ⟨v', rfl, hown, hbel⟩
        exact ⟨v', rfl, hK v' w' hbel (own_base hown (HSZ wz hw)) (fun _ g hg => (hown.lt g hg).1)⟩
    | 23, _, ho =>
      simp only [List.getElem?_toArray, List.getElem?_cons_zero, List.getElem?_cons_succ, Option.some.injEq] at ho; subst ho
      refine webStep_of HB rfl (fun f aC wz hw hd ha hv hsp K hK => ?_)
      have e1 : aC.eval (.tmp 1) = .pointer (some ⟨w.heap.size, 0, none⟩) := (ha 1 HND).trans rfl
      refine wp_val (v := .pointer (some ⟨w.heap.size, 8, none⟩)) (w' := wz) ?_ (hK _ _ (Below.refl _ _) rfl (fun h => absurd h (by decide)))
      show ((do pure (Next.value (← Instr.fieldAt 29 (aC.eval (.tmp 1)) 8)) : Sem Next)).run Try.prog wz = _
      rw [e1]
      exact run_value (field_8 _ _)
    | 24, _, ho =>
      simp only [List.getElem?_toArray, List.getElem?_cons_zero, List.getElem?_cons_succ, Option.some.injEq] at ho; subst ho
      refine webStep_of HB rfl (fun f aC wz hw hd ha hv hsp K hK => ?_)
      have e1 : aC.eval (.tmp 29) = .pointer (some ⟨w.heap.size, 8, none⟩) := (hd 23 29 (by rw [hops]; kernel_rfl : Region.waitsFor .any ops 24 23 = true) (by rw [hops]; kernel_rfl : dstOf ops 23 = some 29) (by simp)).trans (hv 23 (by rw [hops]; kernel_rfl : Region.waitsFor .any ops 24 23 = true))
      refine wp_val (v := V.a) (w' := wz) ?_ (hK _ _ (Below.refl _ _) rfl (fun h => absurd h (by decide)))
      show ((do pure (Next.value (← Instr.loadAt 25 (aC.eval (.tmp 29)))) : Sem Next)).run Try.prog wz = _
      rw [e1]
      exact run_value (load_at _ load_A (HCELL wz hw 8))
    | 25, _, ho =>
      simp only [List.getElem?_toArray, List.getElem?_cons_zero, List.getElem?_cons_succ, Option.some.injEq] at ho; subst ho
      refine webStep_of HB rfl (fun f aC wz hw hd ha hv hsp K hK => ?_)
      have e1 : aC.eval (.tmp 30) = V.a := (hd 24 30 (by rw [hops]; kernel_rfl : Region.waitsFor .any ops 25 24 = true) (by rw [hops]; kernel_rfl : dstOf ops 24 = some 30) (by simp)).trans (hv 24 (by rw [hops]; kernel_rfl : Region.waitsFor .any ops 25 24 = true))
      refine wp_enter (f := 91) (args := #[V.a]) ?_ ((CloneA_any wz V.a C.ands (HIN wz hw).a HR.out.a).mono ?_)
      · simp [execOp, resolve, e1]; rfl
      · rintro e w' ⟨v', rfl, hown, hbel⟩
        exact ⟨v', rfl, hK v' w' hbel (own_base hown (HSZ wz hw)) (fun _ g hg => (hown.lt g hg).1)⟩
    | 26, _, ho =>
      simp only [List.getElem?_toArray, List.getElem?_cons_zero, List.getElem?_cons_succ, Option.some.injEq] at ho; subst ho
      refine webStep_of HB rfl (fun f aC wz hw hd ha hv hsp K hK => ?_)
      have e1 : aC.eval (.tmp 1) = .pointer (some ⟨w.heap.size, 0, none⟩) := (ha 1 HND).trans rfl
      refine wp_val (v := .pointer (some ⟨w.heap.size, 9, none⟩)) (w' := wz) ?_ (hK _ _ (Below.refl _ _) rfl (fun h => absurd h (by decide)))
      show ((do pure (Next.value (← Instr.fieldAt 29 (aC.eval (.tmp 1)) 9)) : Sem Next)).run Try.prog wz = _
      rw [e1]
      exact run_value (field_9 _ _)
    | 27, _, ho =>
      simp only [List.getElem?_toArray, List.getElem?_cons_zero, List.getElem?_cons_succ, Option.some.injEq] at ho; subst ho
      refine webStep_of HB rfl (fun f aC wz hw hd ha hv hsp K hK => ?_)
      have e1 : aC.eval (.tmp 32) = .pointer (some ⟨w.heap.size, 9, none⟩) := (hd 26 32 (by rw [hops]; kernel_rfl : Region.waitsFor .any ops 27 26 = true) (by rw [hops]; kernel_rfl : dstOf ops 26 = some 32) (by simp)).trans (hv 26 (by rw [hops]; kernel_rfl : Region.waitsFor .any ops 27 26 = true))
      refine wp_val (v := V.s) (w' := wz) ?_ (hK _ _ (Below.refl _ _) rfl (fun h => absurd h (by decide)))
      show ((do pure (Next.value (← Instr.loadAt 26 (aC.eval (.tmp 32)))) : Sem Next)).run Try.prog wz = _
      rw [e1]
      exact run_value (load_at _ load_S (HCELL wz hw 9))
    | 28, _, ho =>
      simp only [List.getElem?_toArray, List.getElem?_cons_zero, List.getElem?_cons_succ, Option.some.injEq] at ho; subst ho
      refine webStep_of HB rfl (fun f aC wz hw hd ha hv hsp K hK => ?_)
      have e1 : aC.eval (.tmp 33) = V.s := (hd 27 33 (by rw [hops]; kernel_rfl : Region.waitsFor .any ops 28 27 = true) (by rw [hops]; kernel_rfl : dstOf ops 27 = some 33) (by simp)).trans (hv 27 (by rw [hops]; kernel_rfl : Region.waitsFor .any ops 28 27 = true))
      refine wp_enter (f := 92) (args := #[V.s]) ?_ ((CloneS_any wz V.s C.symbols (HIN wz hw).s HR.out.s).mono ?_)
      · simp [execOp, resolve, e1]; rfl
      · rintro e w' ⟨v', rfl, hown, hbel⟩
        exact ⟨v', rfl, hK v' w' hbel (own_base hown (HSZ wz hw)) (fun _ g hg => (hown.lt g hg).1)⟩
    | 29, _, ho =>
      simp only [List.getElem?_toArray, List.getElem?_cons_zero, List.getElem?_cons_succ, Option.some.injEq] at ho; subst ho
      refine webStep_of HB rfl (fun f aC wz hw hd ha hv hsp K hK => ?_)
      have e1 : aC.eval (.tmp 1) = .pointer (some ⟨w.heap.size, 0, none⟩) := (ha 1 HND).trans rfl
      refine wp_val (v := .pointer (some ⟨w.heap.size, 10, none⟩)) (w' := wz) ?_ (hK _ _ (Below.refl _ _) rfl (fun h => absurd h (by decide)))
      show ((do pure (Next.value (← Instr.fieldAt 29 (aC.eval (.tmp 1)) 10)) : Sem Next)).run Try.prog wz = _
      rw [e1]
      exact run_value (field_10 _ _)
    | 30, _, ho =>
      simp only [List.getElem?_toArray, List.getElem?_cons_zero, List.getElem?_cons_succ, Option.some.injEq] at ho; subst ho
      refine webStep_of HB rfl (fun f aC wz hw hd ha hv hsp K hK => ?_)
      have e1 : aC.eval (.tmp 35) = .pointer (some ⟨w.heap.size, 10, none⟩) := (hd 29 35 (by rw [hops]; kernel_rfl : Region.waitsFor .any ops 30 29 = true) (by rw [hops]; kernel_rfl : dstOf ops 29 = some 35) (by simp)).trans (hv 29 (by rw [hops]; kernel_rfl : Region.waitsFor .any ops 30 29 = true))
      refine wp_val (v := V.t) (w' := wz) ?_ (hK _ _ (Below.refl _ _) rfl (fun h => absurd h (by decide)))
      show ((do pure (Next.value (← Instr.loadAt 27 (aC.eval (.tmp 35)))) : Sem Next)).run Try.prog wz = _
      rw [e1]
      exact run_value (load_at _ load_B (HCELL wz hw 10))
    | 31, _, ho =>
      simp only [List.getElem?_toArray, List.getElem?_cons_zero, List.getElem?_cons_succ, Option.some.injEq] at ho; subst ho
      refine webStep_of HB rfl (fun f aC wz hw hd ha hv hsp K hK => ?_)
      have e1 : aC.eval (.tmp 36) = V.t := (hd 30 36 (by rw [hops]; kernel_rfl : Region.waitsFor .any ops 31 30 = true) (by rw [hops]; kernel_rfl : dstOf ops 30 = some 36) (by simp)).trans (hv 30 (by rw [hops]; kernel_rfl : Region.waitsFor .any ops 31 30 = true))
      refine wp_enter (f := 93) (args := #[V.t]) ?_ ((CloneB_any wz V.t C.comments (HIN wz hw).t HR.out.t).mono ?_)
      · simp [execOp, resolve, e1]; rfl
      · rintro e w' ⟨v', rfl, hown, hbel⟩
        exact ⟨v', rfl, hK v' w' hbel (own_base hown (HSZ wz hw)) (fun _ g hg => (hown.lt g hg).1)⟩
    | 32, _, ho =>
      simp only [List.getElem?_toArray, List.getElem?_cons_zero, List.getElem?_cons_succ, Option.some.injEq] at ho; subst ho
      refine webStep_of HB rfl (fun f aC wz hw hd ha hv hsp K hK => ?_)
      have em : aC.eval (.tmp 7) = .int .i64 C.max := (hd 1 7 (by rw [hops]; kernel_rfl : Region.waitsFor .any ops 32 1 = true) (by rw [hops]; kernel_rfl : dstOf ops 1 = some 7) (by simp)).trans (hv 1 (by rw [hops]; kernel_rfl : Region.waitsFor .any ops 32 1 = true))
      have xi := hd 4 10 (by rw [hops]; kernel_rfl : Region.waitsFor .any ops 32 4 = true) (by rw [hops]; kernel_rfl : dstOf ops 4 = some 10) (by simp)
      have ri : wz.ownsRow w.heap.size 3 1 (f 4) C.inputs.length (C.inputs.flatMap encI) := hv 4 (by rw [hops]; kernel_rfl : Region.waitsFor .any ops 32 4 = true)
      obtain ⟨Ai, ci, si⟩ := own_slice_k ri
      have xl := hd 7 13 (by rw [hops]; kernel_rfl : Region.waitsFor .any ops 32 7 = true) (by rw [hops]; kernel_rfl : dstOf ops 7 = some 13) (by simp)
      have rl : wz.ownsRow w.heap.size 61 3 (f 7) C.latches.length (C.latches.flatMap encT) := hv 7 (by rw [hops]; kernel_rfl : Region.waitsFor .any ops 32 7 = true)
      obtain ⟨Al, cl, sl⟩ := own_slice_k rl
      have xo := hd 10 16 (by rw [hops]; kernel_rfl : Region.waitsFor .any ops 32 10 = true) (by rw [hops]; kernel_rfl : dstOf ops 10 = some 16) (by simp)
      have ro : wz.ownsRow w.heap.size 3 1 (f 10) C.outputs.length (C.outputs.flatMap encI) := hv 10 (by rw [hops]; kernel_rfl : Region.waitsFor .any ops 32 10 = true)
      obtain ⟨Ao, co, so⟩ := own_slice_k ro
      have xb := hd 13 19 (by rw [hops]; kernel_rfl : Region.waitsFor .any ops 32 13 = true) (by rw [hops]; kernel_rfl : dstOf ops 13 = some 19) (by simp)
      have rb : wz.ownsRow w.heap.size 3 1 (f 13) C.bads.length (C.bads.flatMap encI) := hv 13 (by rw [hops]; kernel_rfl : Region.waitsFor .any ops 32 13 = true)
      obtain ⟨Ab, cb, sb⟩ := own_slice_k rb
      have xc := hd 16 22 (by rw [hops]; kernel_rfl : Region.waitsFor .any ops 32 16 = true) (by rw [hops]; kernel_rfl : dstOf ops 16 = some 22) (by simp)
      have rc : wz.ownsRow w.heap.size 3 1 (f 16) C.constraints.length (C.constraints.flatMap encI) := hv 16 (by rw [hops]; kernel_rfl : Region.waitsFor .any ops 32 16 = true)
      obtain ⟨Ac, cc, sc⟩ := own_slice_k rc
      have xj := hd 19 25 (by rw [hops]; kernel_rfl : Region.waitsFor .any ops 32 19 = true) (by rw [hops]; kernel_rfl : dstOf ops 19 = some 25) (by simp)
      have rj : wz.ownsRow w.heap.size 22 1 (f 19) vs.length (vs.flatMap encV) := hv 19 (by rw [hops]; kernel_rfl : Region.waitsFor .any ops 32 19 = true)
      obtain ⟨Aj, cj, sj⟩ := own_slice_k rj
      have xf := hd 22 28 (by rw [hops]; kernel_rfl : Region.waitsFor .any ops 32 22 = true) (by rw [hops]; kernel_rfl : dstOf ops 22 = some 28) (by simp)
      have rf : wz.ownsRow w.heap.size 3 1 (f 22) C.fairness.length (C.fairness.flatMap encI) := hv 22 (by rw [hops]; kernel_rfl : Region.waitsFor .any ops 32 22 = true)
      obtain ⟨Af, cf, sf⟩ := own_slice_k rf
      have xa := hd 25 31 (by rw [hops]; kernel_rfl : Region.waitsFor .any ops 32 25 = true) (by rw [hops]; kernel_rfl : dstOf ops 25 = some 31) (by simp)
      have ra : wz.ownsRow w.heap.size 64 3 (f 25) C.ands.length (C.ands.flatMap encT) := hv 25 (by rw [hops]; kernel_rfl : Region.waitsFor .any ops 32 25 = true)
      obtain ⟨Aa, ca, sa⟩ := own_slice_k ra
      have xs := hd 28 34 (by rw [hops]; kernel_rfl : Region.waitsFor .any ops 32 28 = true) (by rw [hops]; kernel_rfl : dstOf ops 28 = some 34) (by simp)
      have rs : wz.ownsRow w.heap.size 116 3 (f 28) C.symbols.length (C.symbols.flatMap encS) := hv 28 (by rw [hops]; kernel_rfl : Region.waitsFor .any ops 32 28 = true)
      obtain ⟨As, cs, ss⟩ := own_slice_k rs
      have xt := hd 31 37 (by rw [hops]; kernel_rfl : Region.waitsFor .any ops 32 31 = true) (by rw [hops]; kernel_rfl : dstOf ops 31 = some 37) (by simp)
      have rt : wz.ownsRow w.heap.size 9 1 (f 31) C.comments.length (C.comments.flatMap encB) := hv 31 (by rw [hops]; kernel_rfl : Region.waitsFor .any ops 32 31 = true)
      obtain ⟨At, ct, st⟩ := own_slice_k rt
      refine wp_val (v := CV.val ⟨f 4, f 7, f 10, f 13, f 16, f 19, f 22, f 25, f 28, f 31⟩ C.max) (w' := wz) ?_ (hK _ _ (Below.refl _ _) ⟨⟨f 4, f 7, f 10, f 13, f 16, f 19, f 22, f 25, f 28, f 31⟩, rfl, ⟨ri, rl, ro, rb, rc, rj, rf, ra, rs, rt, ?_⟩⟩ (fun h => absurd h (by decide)))
      · simp only [execOp, List.map_toArray, List.map_cons, List.map_nil, em, xi, xl, xo, xb, xc, xj, xf, xa, xs, xt]
        rw [si, sl, so, sb, sc, sj, sf, sa, ss, st]
        exact run_value (build_circ _ _ _ _ _ _ _ _ _ _ _ _ _ _ _ _ _ _ _ _ _ _ _ _ _ _ _ _ _ _ _ _)
      · simp only [List.pairwise_cons, List.mem_cons, List.not_mem_nil, or_false, List.Pairwise.nil, and_true, forall_eq_or_imp, forall_eq, false_implies, implies_true]
        exact ⟨⟨hsp 4 10 (by decide) (by rw [hops]; kernel_rfl : Region.waitsFor .any ops 32 4 = true) (by rw [hops]; kernel_rfl : Region.waitsFor .any ops 32 10 = true) rfl rfl, hsp 4 13 (by decide) (by rw [hops]; kernel_rfl : Region.waitsFor .any ops 32 4 = true) (by rw [hops]; kernel_rfl : Region.waitsFor .any ops 32 13 = true) rfl rfl, hsp 4 16 (by decide) (by rw [hops]; kernel_rfl : Region.waitsFor .any ops 32 4 = true) (by rw [hops]; kernel_rfl : Region.waitsFor .any ops 32 16 = true) rfl rfl, hsp 4 22 (by decide) (by rw [hops]; kernel_rfl : Region.waitsFor .any ops 32 4 = true) (by rw [hops]; kernel_rfl : Region.waitsFor .any ops 32 22 = true) rfl rfl⟩, ⟨hsp 10 13 (by decide) (by rw [hops]; kernel_rfl : Region.waitsFor .any ops 32 10 = true) (by rw [hops]; kernel_rfl : Region.waitsFor .any ops 32 13 = true) rfl rfl, hsp 10 16 (by decide) (by rw [hops]; kernel_rfl : Region.waitsFor .any ops 32 10 = true) (by rw [hops]; kernel_rfl : Region.waitsFor .any ops 32 16 = true) rfl rfl, hsp 10 22 (by decide) (by rw [hops]; kernel_rfl : Region.waitsFor .any ops 32 10 = true) (by rw [hops]; kernel_rfl : Region.waitsFor .any ops 32 22 = true) rfl rfl⟩, ⟨hsp 13 16 (by decide) (by rw [hops]; kernel_rfl : Region.waitsFor .any ops 32 13 = true) (by rw [hops]; kernel_rfl : Region.waitsFor .any ops 32 16 = true) rfl rfl, hsp 13 22 (by decide) (by rw [hops]; kernel_rfl : Region.waitsFor .any ops 32 13 = true) (by rw [hops]; kernel_rfl : Region.waitsFor .any ops 32 22 = true) rfl rfl⟩, hsp 16 22 (by decide) (by rw [hops]; kernel_rfl : Region.waitsFor .any ops 32 16 = true) (by rw [hops]; kernel_rfl : Region.waitsFor .any ops 32 22 = true) rfl rfl⟩
    | 33, _, ho =>
      simp only [List.getElem?_toArray, List.getElem?_cons_zero, List.getElem?_cons_succ, Option.some.injEq] at ho; subst ho
      refine webStep_of HB rfl (fun f aC wz hw hd ha hv hsp K hK => ?_)
      refine wp_val (v := .pointer (some ⟨wz.heap.size, 0, none⟩)) (w' := wz.alloc (.cells #[.int .i64 0, .slice none 0 0, .slice none 0 0, .slice none 0 0, .slice none 0 0, .slice none 0 0, .slice none 0 0, .slice none 0 0, .slice none 0 0, .slice none 0 0, .slice none 0 0] 29)) ?_ (hK _ _ ((Below.refl _ _).alloc (Nat.le_refl _) _) ⟨_, rfl, (by have := hw.size; omega), Blk.new _ _ _⟩ (fun h => absurd h (by decide)))
      exact run_value (alloc_circ wz)
    | n + 34, h, _ => exact absurd h (by omega)
  · intro f wz hw hv hsp
    rw [← hw0] at hw
    have e : putAll ops f (List.range 34) ({ tmps := #[V.val C.max, .pointer (some ⟨w.heap.size, 0, none⟩), .pointer (some ⟨w.heap.size + 1, 0, none⟩), undef, undef, undef, undef, undef, undef, undef, undef, undef, undef, undef, undef, undef, undef, undef, undef, undef, undef, undef, undef, undef, undef, undef, undef, undef, undef, undef, undef, undef, undef, undef, undef, undef, undef, undef, undef, undef, undef, undef, undef, undef, undef, undef, undef, undef, undef, undef, undef, undef, undef, undef, undef], defers := [] } : Act) = ({ tmps := #[V.val C.max, .pointer (some ⟨w.heap.size, 0, none⟩), .pointer (some ⟨w.heap.size + 1, 0, none⟩), f 33, undef, undef, f 0, f 1, f 2, f 3, f 4, f 5, f 6, f 7, f 8, f 9, f 10, f 11, f 12, f 13, f 14, f 15, f 16, f 17, f 18, f 19, f 20, f 21, f 22, f 23, f 24, f 25, f 26, f 27, f 28, f 29, f 30, f 31, f 32, undef, undef, undef, undef, undef, undef, undef, undef, undef, undef, undef, undef, undef, undef, undef, undef], defers := [] } : Act) := by rw [hops]; kernel_rfl
    rw [e]
    clear e
    obtain ⟨V', e32, hc⟩ : ∃ V' : CV, f 32 = V'.val C.max ∧ CopR wz w.heap.size C vs V' := hv 32 (by omega)
    obtain ⟨b, e33, hbB, hblk⟩ : ∃ b, f 33 = .pointer (some ⟨b, 0, none⟩) ∧ w.heap.size + 2 ≤ b ∧ Blk wz b 29 #[.int .i64 0, .slice none 0 0, .slice none 0 0, .slice none 0 0, .slice none 0 0, .slice none 0 0, .slice none 0 0, .slice none 0 0, .slice none 0 0, .slice none 0 0, .slice none 0 0] := hv 33 (by omega)
    have hone : (V'.cells C.max).all (·.oneCell') = true := by
      obtain ⟨_, _, e0⟩ := own_slice_k hc.i
      obtain ⟨_, _, e1⟩ := own_slice_k hc.l
      obtain ⟨_, _, e2⟩ := own_slice_k hc.o
      obtain ⟨_, _, e3⟩ := own_slice_k hc.b
      obtain ⟨_, _, e4⟩ := own_slice_k hc.c
      obtain ⟨_, _, e5⟩ := own_slice_k hc.j
      obtain ⟨_, _, e6⟩ := own_slice_k hc.f
      obtain ⟨_, _, e7⟩ := own_slice_k hc.a
      obtain ⟨_, _, e8⟩ := own_slice_k hc.s
      obtain ⟨_, _, e9⟩ := own_slice_k hc.t
      simp only [CV.cells]
      rw [e0, e1, e2, e3, e4, e5, e6, e7, e8, e9]
      simp [Value.oneCell']
    have ho34 : ∃ o, ops[34]? = some o ∧ o.guard = none ∧ o.op = .store 29 (.tmp 3) (.tmp 38) ∧ o.dst = none := by rw [hops]; exact ⟨_, rfl, rfl, rfl, rfl⟩
    obtain ⟨o, ho1, ho2, ho3, ho4⟩ := ho34
    refine wpOp_of ho1 ho2 ?_
    refine wp_store_row 29 (.tmp 3) (.tmp 38) ho3 b (V'.cells C.max) (by exact e33) (by exact e32) 29 _ hblk (by kernel_rfl) rfl hone ?_
    rw [ho4]
    clear ho1 ho2 ho3 ho4 hops HBA HB HND
    obtain ⟨w3, hw3⟩ : ∃ w3, w3 = wz.setRow b (V'.cells C.max) := ⟨_, rfl⟩
    rw [← hw3]
    have hb3 : Blk w3 b 29 (V'.cells C.max) := by rw [hw3]; exact setRow_heap wz b _ (V'.cells C.max) _ _ hblk
    have hoth : ∀ k, k ≠ b → w3.heap[k]? = wz.heap[k]? := fun k hk => by
      rw [hw3]
      simp only [World.setRow, Array.getElem?_modify]
      rw [if_neg (fun e => hk e.symm)]
    have hsz3 : w3.heap.size = wz.heap.size := by rw [hw3]; simp
    have hne : ∀ {t : TypeId} {k n : Nat} {v : Value} {xs : List Value}, wz.ownsRow w.heap.size t k v n xs → t ≠ 29 → w3.ownsRow w.heap.size t k v n xs := fun ho ht =>
      own_of_block ho fun g hg => hoth g (fun e => own_blk_ne ho hblk ht (by rw [hg, e]))
    have hc3 : CopR w3 w.heap.size C vs V' := ⟨hne hc.i (by decide), hne hc.l (by decide), hne hc.o (by decide), hne hc.b (by decide), hne hc.c (by decide), hne hc.j (by decide), hne hc.f (by decide), hne hc.a (by decide), hne hc.s (by decide), hne hc.t (by decide), hc.apart⟩
    have hbel : Below w.heap.size w w3 := by
      have h1 := bt hb0 (by omega) (hw.mono (Nat.le_refl _))
      exact ⟨by rw [hw3]; exact h1.os, by rw [hw3]; exact h1.tape, by rw [hw3]; exact h1.output, by rw [hsz3]; exact h1.size, fun k hk => (hoth k (by omega)).trans (h1.block k hk)⟩
    have hz3 : Blk w3 (w.heap.size + 1) 29 #[.int .i64 0, .slice none 0 0, .slice none 0 0, .slice none 0 0, .slice none 0 0, .slice none 0 0, .slice none 0 0, .slice none 0 0, .slice none 0 0, .slice none 0 0, .slice none 0 0] := by
      have h1 : Blk w0 (w.heap.size + 1) 29 #[.int .i64 0, .slice none 0 0, .slice none 0 0, .slice none 0 0, .slice none 0 0, .slice none 0 0, .slice none 0 0, .slice none 0 0, .slice none 0 0, .slice none 0 0, .slice none 0 0] := by
        rw [hw0]
        have := Blk.new (w.alloc (.cells (V.cells C.max) 29)) 29 #[.int .i64 0, .slice none 0 0, .slice none 0 0, .slice none 0 0, .slice none 0 0, .slice none 0 0, .slice none 0 0, .slice none 0 0, .slice none 0 0, .slice none 0 0, .slice none 0 0]
        simp only [alloc_size] at this
        exact this.drew
      exact (hoth _ (by omega)).trans (h1.below hw h1.lt)
    have HC3 := Lib.hid hc3
    have HBL := Lib.hid hbel
    have HB3 := Lib.hid hb3
    have HZ3 := Lib.hid hz3
    have cj := hb3.cell 6
    obtain ⟨Aj, cj', ej⟩ := own_slice_k hc3.j
    simp only [CV.cells, List.getElem?_toArray, List.getElem?_cons_zero, List.getElem?_cons_succ] at cj
    rw [ej] at cj
    have HEJ := Lib.hid ej
    have HON := Lib.hid hone
    have hvl : vs.length ≤ 140737488355328 := by have := HR.out.j; have := HJL.out; omega
    have HBB : Hid (w.heap.size ≤ b) := Lib.hid (by omega)
    have hlt3 : b < w3.heap.size := hb3.lt
    rw [e33]
    clear hw3 hsz3 hne hoth hc3 hbel hb3 hz3 hv hsp hblk hc e32 hone hw HCELL HIN HJZ HSZ hx0 hb0 hs0 hw0 ej
    go_wp2
    clear cj
    go_loopg [42] vs.length (fun k j wx => ∃ (q : Nat) (us : List Value), q ≤ vs.length ∧ k = vs.length - q ∧ j = .int .i64 q ∧ CpyL w wx b V' C vs us q)
    case atStart =>
      refine ⟨0, [], Nat.zero_le _, rfl, rfl, ⟨HBL.out, HB3.out, HZ3.out, rfl, ?_, ?_, HC3.out.l, HC3.out.a, HC3.out.s, HC3.out.t⟩⟩
      · rw [List.zip_nil_left, List.append_nil]
        refine fam_of_pair (fun p hp => ?_) HC3.out.apart
        simp only [List.mem_cons, List.not_mem_nil, or_false] at hp
        rcases hp with rfl | rfl | rfl | rfl | rfl
        · rw [← flat_ints]; exact HC3.out.i
        · rw [← flat_ints]; exact HC3.out.o
        · rw [← flat_ints]; exact HC3.out.b
        · rw [← flat_ints]; exact HC3.out.c
        · rw [← flat_ints]; exact HC3.out.f
      · have := HC3.out.j
        rw [flat_vals] at this
        exact this
    case round =>
      obtain ⟨q, us, hq, hgk, rfl, hst⟩ := hrel
      subst hgk
      have HST := Lib.hid hst
      have cj := hst.box.cell 6
      simp only [CV.cells, List.getElem?_toArray, List.getElem?_cons_zero, List.getElem?_cons_succ] at cj
      by_cases hlt : q < vs.length
      · obtain ⟨gj, capj, hVj, hgB, hgl, _, hcj, hfj, _⟩ := own_cells_v hst.j (by omega)
        have hEJ := HEJ.out
        rw [hVj] at hEJ
        injection hEJ with e1 e2 e3
        subst e1 e3
        have HVJ := Lib.hid hVj
        rw [hVj] at cj
        obtain ⟨u, hu⟩ : ∃ u, vs[q]? = some u := ⟨_, List.getElem?_eq_getElem hlt⟩
        obtain ⟨zs, hzs⟩ : ∃ zs, C.justice[q]? = some zs := ⟨_, List.getElem?_eq_getElem (by rw [← HJL.out]; exact hlt)⟩
        have hrow := (HJ3.out q u zs hu hzs).below hst.below
        have HZS := Lib.hid hzs
        obtain ⟨Au, cu, hus, _⟩ := hrow
        have hrow := (HJ3.out q u zs hu hzs).below hst.below
        have cq := hcj q u (by rw [List.getElem?_append_right (by rw [hst.len]; exact Nat.le_refl _), hst.len, Nat.sub_self, List.getElem?_drop]; simpa using hu)
        have fq := hfj q
        have hcl := CloneI_any wr.drew u zs (hrow.below (Below.refl _ _).drew) (HR.out.js zs (List.mem_of_getElem? hzs))
        have HCL := Lib.hid hcl
        have H5 : Hid (∀ w5, Below wr.drew.heap.size wr.drew w5 → w5.cell? ⟨b, 6, none⟩ = some (.slice (some ⟨gj, 0, none⟩) vs.length capj) ∧ w5.cell? ⟨gj, q, none⟩ = some u ∧ w5.frozen? ⟨gj, q, none⟩ = false ∧ Below wr.heap.size wr w5) := Lib.hid (fun w5 hb5 => by
          have hbb : Below wr.heap.size wr w5 := (Below.refl wr.heap.size wr).drew.trans hb5
          exact ⟨(hbb.cell (p := ⟨b, 6, none⟩) HST.out.box.lt).trans cj, (hbb.cell (p := ⟨gj, q, none⟩) hgl).trans cq, (hbb.frozen (p := ⟨gj, q, none⟩) hgl).trans fq, hbb⟩)
        subst hus
        clear hst hcj hfj hu hzs hrow hcl hVj
        go_wp2
        go_region_with (go_at_call 89; refine HCL.out.mono ?_; rintro e w5 ⟨v', rfl, ho5, hb5⟩; obtain ⟨A5, c5', rfl⟩ := own_slice_k ho5; obtain ⟨c5, d5, f5, hbb⟩ := H5.out w5 hb5)
        all_goals (
          go_wp2
          go_roundg (vs.length - (q + 1))
          case measure => omega
          case rel => exact ⟨q + 1, us ++ [.slice A5 zs.length c5'], by omega, rfl, by go_num, HST.out.step HBB.out hlt HZS.out HVJ.out hbb ho5⟩)
      · have hqe : q = vs.length := by omega
        subst hqe
        clear hst
        have hbx := HST.out.box
        have hrs := HST.out.res
        have HBX : Hid (wr.heap[b]? = some (.cells (V'.cells C.max) 29 (0, 0))) := Lib.hid hbx
        have HRS : Hid (wr.heap[w.heap.size + 1]? = some (.cells #[.int .i64 0, .slice none 0 0, .slice none 0 0, .slice none 0 0, .slice none 0 0, .slice none 0 0, .slice none 0 0, .slice none 0 0, .slice none 0 0, .slice none 0 0, .slice none 0 0] 29 (0, 0))) := Lib.hid hrs
        have hw9 : Blk (wr.setRow (w.heap.size + 1) (V'.cells C.max)) (w.heap.size + 1) 29 (V'.cells C.max) := setRow_heap wr (w.heap.size + 1) _ (V'.cells C.max) _ _ hrs
        have H9 := Lib.hid hw9
        clear hbx hrs hw9
        go_wp2_with (first
          | (refine wpList_load_row rfl 29 (.tmp 3) rfl b rfl 29 (V'.cells C.max) (0, 0) _ HBX.out Try.underlying29 rfl (by kernel_rfl) ?_)
          | (refine wpList_store_row rfl 29 (.tmp 2) (.tmp 54) rfl (w.heap.size + 1) (V'.cells C.max) rfl rfl 29 _ HRS.out (by kernel_rfl) rfl HON.out ?_))
        refine bodyPost_ret (results_cell_row (fn := Try.f58) rfl _ _ (w.heap.size + 1) 29 (V'.cells C.max) (0, 0) _ rfl H9.out Try.underlying29 rfl (by kernel_rfl)) rfl ?_
        have hne : ∀ {t : TypeId} {k n : Nat} {v : Value} {xs : List Value}, wr.ownsRow w.heap.size t k v n xs → t ≠ 29 → (wr.setRow (w.heap.size + 1) (V'.cells C.max)).ownsRow w.heap.size t k v n xs := fun ho ht =>
          own_of_block ho fun g hg => setRow_other _ _ _ _ (fun e => own_blk_ne ho HST.out.res ht (by rw [hg, e]))
        have hl := HST.out.len
        have hul : us.length = C.justice.length := hl.trans HJL.out
        have hj := HST.out.j
        rw [List.drop_length, List.append_nil, ← hl] at hj
        exact ⟨V', us, rfl, ⟨HST.out.below.os, HST.out.below.tape, HST.out.below.output, by rw [size_setRow]; exact HST.out.below.size, fun k hk => (setRow_other _ _ _ _ (by omega)).trans (HST.out.below.block k hk)⟩,
          ⟨⟨fun p hp => hne (HST.out.fam.own p hp) (by decide), HST.out.fam.apart⟩, hul, hne hj (by decide), hne HST.out.l (by decide), hne HST.out.a (by decide), hne HST.out.s (by decide), hne HST.out.t (by decide)⟩⟩

end Go.Proofs.Ytdladffjenfikaa

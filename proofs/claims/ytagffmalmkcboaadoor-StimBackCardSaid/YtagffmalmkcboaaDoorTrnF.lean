/- Tern: a spread is laid: the contract of newSpread. -/
import Derived.Test.YtagffmalmkcboaaDoorTrnB
import Derived.Test.YtagffmalmkcboaaDoorAppF
import Derived.Test.YtagffmalmkcboaaDoorSimK
import Derived.Test.YtagffmalmkcboaaDoorOrdW
import Derived.Deep.RegionHeld
namespace Go.Proofs.YtagffmalmkcboaaDoor
open Go.RowKit

/-- Where a spread lies: its box, its values, what is held, its gates and users. -/
structure SpB where
  bs : Nat
  gv : Nat
  gh : Nat
  n : Nat
  aV : Value
  uV : Value
abbrev SpB.cells (S : SpB) (tv : Value) : Array Value := #[S.aV, S.uV, .slice (some ⟨S.gv, 0, none⟩) S.n S.n, .slice (some ⟨S.gh, 0, none⟩) S.n S.n, tv]
structure SP (w0 wr : World) (S : SpB) (tv : Value) (T : List Int) (H : List Bool) (tr : List (Int × Int)) (us : List Value) (US : List (List Int)) : Prop where
  grown : w0.grownBy wr (some S.gv)
  hgv : S.gv < w0.heap.size
  hbs : w0.heap.size ≤ S.bs
  hgh : w0.heap.size ≤ S.gh
  tl : T.length = S.n
  hl : H.length = S.n
  ul : US.length = S.n
  val : Nums wr S.gv T
  held : Tab wr S.gh H
  box : Blk wr S.bs 192 (S.cells tv)
  trail : wr.ownsRow w0.heap.size 218 2 tv tr.length (tr.flatMap encP)
  users : JRow wr w0.heap.size S.uV us US
/-- But for the values, spreads and trails nothing turns. -/
structure KP (gv : Nat) (w w' : World) : Prop where
  os : w'.os = w.os
  tape : w'.tape = w.tape
  output : w'.output = w.output
  size : w.heap.size ≤ w'.heap.size
  blk : ∀ k, k < w.heap.size → k ≠ gv → (∀ cs, ¬ Blk w k 192 cs) → (∀ cs, ¬ Blk w k 218 cs) → w'.heap[k]? = w.heap[k]?
theorem KP.refl (gv : Nat) (w : World) : KP gv w w := ⟨rfl, rfl, rfl, Nat.le_refl _, fun _ _ _ _ _ => rfl⟩
theorem KP.of_below {gv : Nat} {w w' : World} (h : Below w.heap.size w w') : KP gv w w' := ⟨h.os, h.tape, h.output, h.size, fun k hk _ _ _ => h.block k hk⟩
theorem KP.trans {gv : Nat} {w w1 w2 : World} (h : KP gv w w1) (k : KP gv w1 w2) : KP gv w w2 := by
  refine ⟨k.os.trans h.os, k.tape.trans h.tape, k.output.trans h.output, Nat.le_trans h.size k.size, fun b hb hne h1 h2 => ?_⟩
  have e := h.blk b hb hne h1 h2
  refine (k.blk b (Nat.lt_of_lt_of_le hb h.size) hne (fun cs hc => h1 cs ?_) (fun cs hc => h2 cs ?_)).trans e
  · exact e.symm.trans hc
  · exact e.symm.trans hc
theorem KP.own {gv B n k : Nat} {w w' : World} {t : TypeId} {v : Value} {xs : List Value} (h : KP gv w w') (ho : w.ownsRow B t k v n xs) (h1 : t ≠ 192) (h2 : t ≠ 218) (h3 : gv < B) : w'.ownsRow B t k v n xs :=
  own_of_block ho fun g hg => h.blk g (ho.lt g hg).2 (fun e => by have := (ho.lt g hg).1; omega) (fun cs hc => own_blk_ne ho hc h1 (by rw [hg])) (fun cs hc => own_blk_ne ho hc h2 (by rw [hg]))
section
variable {w0 wr : World} {S : SpB} {tv : Value} {T : List Int} {H : List Bool} {tr : List (Int × Int)} {us : List Value} {US : List (List Int)}
theorem SP.on {w1 : World} (h : SP w0 wr S tv T H tr us US) (hb : Below wr.heap.size wr w1) : SP w0 w1 S tv T H tr us US :=
  ⟨⟨hb.os.trans h.grown.os, hb.tape.trans h.grown.tape, hb.output.trans h.grown.output, Nat.le_trans h.grown.size hb.size, fun k hk hne => (hb.block k (Nat.lt_of_lt_of_le hk h.grown.size)).trans (h.grown.block k hk hne)⟩, h.hgv, h.hbs, h.hgh, h.tl, h.hl, h.ul, Blk.below h.val hb (Blk.lt h.val), Blk.below h.held hb (Blk.lt h.held), h.box.below hb h.box.lt, own_below h.trail hb, h.users.below hb⟩
/-- A cell of the values is written. -/
theorem SP.set_ (h : SP w0 wr S tv T H tr us US) (v : Nat) (x : Int) : SP w0 (wr.setCell ⟨S.gv, v, none⟩ (.int .i64 x)) S tv (T.set v x) H tr us US ∧ KP S.gv wr (wr.setCell ⟨S.gv, v, none⟩ (.int .i64 x)) := by
  have hgv := h.hgv
  have key : ∀ {t : TypeId} {k n : Nat} {v' : Value} {xs : List Value}, wr.ownsRow w0.heap.size t k v' n xs → (wr.setCell ⟨S.gv, v, none⟩ (.int .i64 x)).ownsRow w0.heap.size t k v' n xs := fun ho => own_setQ ho _ _ (fun g hg e => by have := (ho.lt g hg).1; simp only at e; omega)
  refine ⟨⟨only_setL h.grown v (.int .i64 x), hgv, h.hbs, h.hgh, by simp [h.tl], h.hl, h.ul, Nums.set_ h.val v x, Blk.far h.held (by have := h.hgh; simp only; omega) _, Blk.far h.box (by have := h.hbs; simp only; omega) _, key h.trail, ⟨h.users.ul, key h.users.own, fun i u zs hu hz => key (h.users.each i u zs hu hz)⟩⟩, rfl, rfl, rfl, by simp, fun k _ hne _ _ => ?_⟩
  exact Below.heap_setCell _ _ _ _ hne
end

end Go.Proofs.YtagffmalmkcboaaDoor

namespace Go.Proofs.YtagffmalmkcboaaDoor
open Go.RowKit

theorem put1_keep (s : List Int × List (Int × Int)) (v : Nat) : (∀ pos, pos < s.2.length → (put1 s v).2[pos]? = s.2[pos]?) ∧ ∀ u : Nat, s.1.getD u 0 = 2 → (put1 s v).1.getD u 0 = 2 := by
  unfold put1
  split
  · exact ⟨fun _ _ => rfl, fun _ h => h⟩
  · refine ⟨fun pos hp => List.getElem?_append_left hp, fun u hu => ?_⟩
    by_cases e : v = u
    · subst e
      rcases Nat.lt_or_ge v s.1.length with hl | hl
      · exact set3_at hl
      · rw [List.getD_eq_getElem?_getD, List.getElem?_eq_none hl] at hu; simp at hu
    · simp only; rw [set3_far e]; exact hu
theorem user1_keep (C : Circ) (s : List Int × List (Int × Int)) (i : Int) : (∀ pos, pos < s.2.length → (user1 C s i).2[pos]? = s.2[pos]?) ∧ ∀ u : Nat, s.1.getD u 0 = 2 → (user1 C s i).1.getD u 0 = 2 := by
  unfold user1
  split
  · exact put1_keep _ _
  · exact ⟨fun _ _ => rfl, fun _ h => h⟩
/-- What stands while one latch more is made 2. -/
structure LS (w0 w wx : World) (S : SpB) (C : Circ) (T Ts : List Int) (H : List Bool) (tr : List (Int × Int)) (us : List Value) (US : List (List Int)) (v0 a : Nat) (tv : Value) (s : List Int × List (Int × Int)) (Pd : Nat → Prop) : Prop where
  sp : SP w0 wx S tv s.1 H s.2 us US
  kp : KP S.gv w wx
  lo : Lo C T Ts tr s a Pd
  a0 : tr.length ≤ a
  a1 : a ≤ s.2.length
  hd : ∀ (pos : Nat) (p : Int × Int), tr.length ≤ pos → pos < a → s.2[pos]? = some p → H.getD p.1.toNat false = false
  two : s.1.getD v0 0 = 2
section
variable {w0 w wx : World} {S : SpB} {C : Circ} {T Ts : List Int} {H : List Bool} {tr : List (Int × Int)} {us : List Value} {US : List (List Int)} {v0 a : Nat} {tv : Value} {s : List Int × List (Int × Int)} {Pd : Nat → Prop}
theorem LS.on {w1 : World} (h : LS w0 w wx S C T Ts H tr us US v0 a tv s Pd) (hb : Below wx.heap.size wx w1) : LS w0 w w1 S C T Ts H tr us US v0 a tv s Pd :=
  ⟨h.sp.on hb, h.kp.trans (KP.of_below hb), h.lo, h.a0, h.a1, h.hd, h.two⟩
theorem LS.len (h : LS w0 w wx S C T Ts H tr us US v0 a tv s Pd) (k : Trl T tr) : s.2.length ≤ S.n := by
  have := (h.lo.trl k).le
  rw [h.sp.tl] at this
  exact this
theorem LS.next (h : LS w0 w wx S C T Ts H tr us US v0 a tv s (fun _ => False)) {p : Int × Int} {v : Nat} (hp : s.2[a]? = some p) (hv : p.1 = (v : Int)) {zs : List Int} (hu : IsUsers C v zs) (hh : H.getD v false = false) : LS w0 w wx S C T Ts H tr us US v0 (a + 1) tv s (fun k => (k : Int) ∈ zs.drop 0) := by
  refine ⟨h.sp, h.kp, h.lo.next hp hv hu, by have := h.a0; omega, (List.getElem?_eq_some_iff.1 hp).1, fun pos q h1 h2 h3 => ?_, h.two⟩
  by_cases e : pos = a
  · subst e
    rw [hp] at h3
    injection h3 with h3
    subst h3
    have : p.1.toNat = v := by omega
    rw [this]; exact hh
  · exact h.hd pos q h1 (by omega) h3
theorem LS.user {w1 : World} {tv' : Value} {L I : List Int} {zs : List Int} {q i : Nat} (h0 : (checkR C).2 = 0) (hTs : ValA C L I Ts) (hl : T.length = C.max.toNat + 1) (h : LS w0 w wx S C T Ts H tr us US v0 a tv s (fun k => (k : Int) ∈ zs.drop q)) (hq : zs[q]? = some (i : Int)) (hi : i < C.ands.length)
    (hsp : SP w0 w1 S tv' (user1 C s (i : Int)).1 H (user1 C s (i : Int)).2 us US) (hkp : KP S.gv w w1) : LS w0 w w1 S C T Ts H tr us US v0 a tv' (user1 C s (i : Int)) (fun k => (k : Int) ∈ zs.drop (q + 1)) := by
  have h1 := h.lo.user h0 hTs hl hi h.a1
  obtain ⟨k1, k2⟩ := user1_keep C s (i : Int)
  have hdr : zs.drop q = (i : Int) :: zs.drop (q + 1) := by
    have hql := (List.getElem?_eq_some_iff.1 hq).1
    rw [List.drop_eq_getElem_cons hql]
    rw [List.getElem?_eq_getElem hql] at hq
    injection hq with hq
    rw [hq]
  refine ⟨hsp, hkp, ⟨h1.len, h1.ex, h1.up, h1.le, fun k z hz => ?_⟩, h.a0, Nat.le_trans h.a1 (Lo.longer s i), fun pos p q1 q2 q3 => ?_, k2 _ h.two⟩
  · rcases h1.eq k z hz with e | e | ⟨e, e2⟩
    · exact .inl e
    · exact .inr (.inl e)
    · refine .inr (.inr ?_)
      rw [hdr] at e
      rcases List.mem_cons.1 e with e | e
      · exact absurd (by omega) e2
      · exact e
  · rw [k1 pos (by have := h.a1; omega)] at q3
    exact h.hd pos p q1 q2 q3
theorem LS.done {zs : List Int} {q : Nat} (h : LS w0 w wx S C T Ts H tr us US v0 a tv s (fun k => (k : Int) ∈ zs.drop q)) (hq : zs.length ≤ q) : LS w0 w wx S C T Ts H tr us US v0 a tv s (fun _ => False) :=
  ⟨h.sp, h.kp, ⟨h.lo.len, h.lo.ex, h.lo.up, h.lo.le, fun i z hz => by
    rcases h.lo.eq i z hz with e | e | e
    · exact .inl e
    · exact .inr (.inl e)
    · rw [List.drop_eq_nil_of_le hq] at e; simp at e⟩, h.a0, h.a1, h.hd, h.two⟩
end
/-- What loosen leaves. -/
def LoosePost (w0 w w' : World) (S : SpB) (_C : Circ) (T Ts : List Int) (H : List Bool) (tr : List (Int × Int)) (us : List Value) (US : List (List Int)) : Prop :=
  KP S.gv w w' ∧ ∃ (tv' : Value) (T' : List Int) (tr' : List (Int × Int)), SP w0 w' S tv' T' H tr' us US ∧ Trl T' tr' ∧
    (((∀ v : Nat, H.getD v false = true → T.getD v 0 = Ts.getD v 0) ∧ T' = Ts ∧ ∃ new, tr' = tr ++ new ∧ Ch T Ts new) ∨ ((∃ v : Nat, H.getD v false = true ∧ T.getD v 0 ≠ Ts.getD v 0) ∧ T' = T ∧ tr' = tr))
section
variable {w0 w wx : World} {S : SpB} {C : Circ} {T : List Int} {H : List Bool} {tr : List (Int × Int)} {us : List Value} {US : List (List Int)} {v0 a : Nat} {tv : Value} {s : List Int × List (Int × Int)} {O L I : List Int} {j : Nat} {zj : Tri}
theorem LS.hit {Ts : List Int} {w1 : World} {tv' : Value} (h : LS w0 w wx S C T Ts H tr us US v0 a tv s (fun _ => False)) (htr : Trl T tr) {p : Int × Int} (hp : s.2[a]? = some p) {v : Nat} (hv : p.1 = (v : Int)) (hh : H.getD v false = true)
    (hsp : SP w0 w1 S tv' (back1 s.1 (s.2.drop tr.length)) H (s.2.take tr.length) us US) (hkp : KP S.gv w w1) : LoosePost w0 w w1 S C T Ts H tr us US := by
  rw [h.lo.back] at hsp
  obtain ⟨hc1, hc2⟩ := h.lo.ch
  have ht : s.2.take tr.length = tr := by rw [hc2, List.take_left']; rfl
  rw [ht] at hsp
  have hpm : p ∈ s.2.drop tr.length := by
    have h9 : (s.2.drop tr.length)[a - tr.length]? = some p := by rw [List.getElem?_drop, show tr.length + (a - tr.length) = a by have := h.a0; omega]; exact hp
    exact List.mem_of_getElem? h9
  obtain ⟨u, q1, q2, q3, q4, q5⟩ := hc1.at_ p hpm
  have : u = v := by omega
  subst this
  refine ⟨hkp, tv', T, tr, hsp, htr, .inr ⟨⟨u, hh, fun e => ?_⟩, rfl, rfl⟩⟩
  have h8 := h.lo.up u
  rw [q5, ← e, ← q3] at h8
  rcases h8 with e8 | e8
  · exact q4 e8.symm
  · exact q4 e8
end

end Go.Proofs.YtagffmalmkcboaaDoor

namespace Go.Proofs.YtagffmalmkcboaaDoor
open Go.RowKit


section
variable {P : Program} {md : Region.Mode} {ops : Array Oper} {Q : Exit → Act → World → Prop} {S : World → Prop} {n : Nat}
/-- Whatever order is picked, and S holds behind each operation below n: those from n on come last. -/
def wpAnyT (P : Program) (md : Region.Mode) (ops : Array Oper) (Q : Exit → Act → World → Prop) (S : World → Prop) (n : Nat) : Nat → Array Bool → Act → World → Prop
  | 0, listed, a, w => Region.ready md ops listed = [] ∧ Q .normal a w
  | fuel + 1, listed, a, w =>
    (Region.ready md ops listed = [] → Q .normal a w) ∧
    ∀ i ∈ Region.ready md ops listed, wpOp P ops Q i (fun a' w' => (i < n → S w') ∧ wpAnyT P md ops Q S n fuel (listed.setIfInBounds i true) a' w') a w
theorem wpAny_of_T : ∀ (fuel : Nat) (listed : Array Bool) (a : Act) (w : World), wpAnyT P md ops Q S n fuel listed a w → wpAny P md ops Q fuel listed a w
  | 0, _, _, _, h => h
  | fuel + 1, _, _, _, h => ⟨h.1, fun i hi => wpOp_mono (fun a' w' h' => wpAny_of_T fuel _ a' w' h'.2) (h.2 i hi)⟩
theorem wpAnyT_first {i : Nat} {oi : Oper} {v : Value} (hi : ops[i]? = some oi) (hin : i < n) (hsel : ∀ (j : Nat) (o : Oper) cs b, ops[j]? = some o → o.op ≠ .select cs b)
    (hlast : ∀ (j : Nat) (oj : Oper), n ≤ j → ops[j]? = some oj → ∃ e ∈ oj.after, Region.binds md e = true ∧ e.on = i)
    (hQ : ∀ c a w, Q (.panic c) (a.put oi.dst v) w → Q (.panic c) a w) :
    ∀ (fuel : Nat) (listed : Array Bool) (a : Act) (w : World),
      (∀ j oj, ops[j]? = some oj → j ≠ i → listed.getD j true = false → (∀ e ∈ oj.after, Region.binds md e = true → e.on ≠ i) → oi.apart ops oj = true) →
      i ∈ Region.ready md ops listed → YieldsIf P ops S oi v a → S w →
      wpAnyT P md ops Q S n fuel (listed.setIfInBounds i true) (a.put oi.dst v) w → wpAnyT P md ops Q S n (fuel + 1) listed a w := by
  intro fuel
  induction fuel with
  | zero =>
    intro listed a w _ hr hy hS H
    refine ⟨fun h => (by rw [h] at hr; cases hr), fun j hj => ?_⟩
    by_cases hji : j = i
    · subst hji; exact hy.wpOp hi hS ⟨fun _ => hS, H⟩
    · have := ready_mono hj hji
      rw [H.1] at this
      cases this
  | succ fuel ih =>
    intro listed a w hfree hr hy hS H
    refine ⟨fun h => (by rw [h] at hr; cases hr), fun j hj => ?_⟩
    by_cases hji : j = i
    · subst hji; exact hy.wpOp hi hS ⟨fun _ => hS, H⟩
    · have h1 := H.2 j (ready_mono hj hji)
      obtain ⟨hjun, oj, hoj, hall⟩ := mem_ready.1 hj
      have hnot : ∀ e ∈ oj.after, Region.binds md e = true → e.on ≠ i := fun e he hb heq => by
        have h1 := hall e he hb
        have h0 := (mem_ready.1 hr).1
        rw [heq] at h1
        rcases Nat.lt_or_ge i listed.size with h' | h'
        · simp [h'] at h0 h1; rw [h0] at h1; cases h1
        · simp [Array.getElem?_eq_none h'] at h1
      have hjn : j < n := by
        rcases Nat.lt_or_ge j n with h9 | h9
        · exact h9
        · obtain ⟨e, he, hb, heq⟩ := hlast j oj h9 hoj
          exact absurd heq (hnot e he hb)
      have h2 := wpOp_putIf hoj (hfree j oj hoj hji hjun hnot) (fun cs b => hsel i oi cs b hi) (fun cs b => hsel j oj cs b hoj) hQ hy h1
      have hfree' : ∀ k ok, ops[k]? = some ok → k ≠ i → (listed.setIfInBounds j true).getD k true = false →
          (∀ e ∈ ok.after, Region.binds md e = true → e.on ≠ i) → oi.apart ops ok = true := fun k ok hk hki hun hno => by
        refine hfree k ok hk hki ?_ hno
        by_cases hjk : j = k
        · subst hjk; exact hjun
        · rw [getD_set_ne true hjk] at hun; exact hun
      refine wpOp_mono (fun a' w' h3 => ⟨h3.2.1, ih (listed.setIfInBounds j true) a' w' hfree' (ready_mono hr (Ne.symm hji)) h3.1 (h3.2.1 hjn) ?_⟩) h2
      rw [Array.setIfInBounds_comm _ _ hji]
      exact h3.2.2
def lastB (md : Region.Mode) (ops : Array Oper) (n i : Nat) : Bool := (List.range ops.size).all fun j => decide (j < n) || Region.waitsFor md ops j i
theorem lastB_spec {i : Nat} (h : lastB md ops n i = true) (j : Nat) (oj : Oper) (hj : n ≤ j) (ho : ops[j]? = some oj) : ∃ e ∈ oj.after, Region.binds md e = true ∧ e.on = i := by
  have hjl := (Array.getElem?_eq_some_iff.1 ho).1
  have := List.all_eq_true.1 h j (List.mem_range.2 hjl)
  rw [Bool.or_eq_true, decide_eq_true_eq] at this
  rcases this with h1 | h1
  · omega
  · obtain ⟨o, ho2, e, he, hb, heq⟩ := Region.waitsFor_spec h1
    rw [ho] at ho2
    injection ho2 with ho2
    subst ho2
    exact ⟨e, he, hb, heq⟩
theorem wpAnyT_take {i : Nat} {oi : Oper} {v : Value} {fuel : Nat} {listed : Array Bool} {a : Act} {w : World} (hi : ops[i]? = some oi)
    (hc : (decide (i < n) && Region.noSelect ops && Region.free md ops listed i && (Region.ready md ops listed).contains i && lastB md ops n i) = true)
    (hQ : ∀ c a w, Q (.panic c) (a.put oi.dst v) w → Q (.panic c) a w) (hw : Region.wanted oi (yielded ops a.tmps) = true) (hS : S w) (hy : ∀ w', S w' → (execOp a.eval oi).run P w' = .ok (.value v) w')
    (h : wpAnyT P md ops Q S n fuel (listed.setIfInBounds i true) (a.put oi.dst v) w) : wpAnyT P md ops Q S n (fuel + 1) listed a w := by
  simp only [Bool.and_eq_true, decide_eq_true_eq] at hc
  obtain ⟨⟨⟨⟨c1, c2⟩, c3⟩, c4⟩, c5⟩ := hc
  exact wpAnyT_first hi c1 (Region.noSelect_spec c2) (lastB_spec c5) hQ fuel listed a w (Region.free_spec hi c3) (by simpa using c4) (.inl ⟨hw, hy⟩) hS h
theorem wpAnyT_one {i : Nat} {o : Oper} {fuel : Nat} {listed : Array Bool} {a : Act} {w : World} (ho : ops[i]? = some o) (hr : Region.ready md ops listed = [i])
    (h : ∀ K' : Act → World → Prop, Shut (∀ a w, (i < n → S w) → wpAnyT P md ops Q S n fuel (listed.setIfInBounds i true) a w → K' a w) → if Region.wanted o (yielded ops a.tmps) = true then Oper.wp P o a w K' Q else K' (a.put o.dst undef) w) : wpAnyT P md ops Q S n (fuel + 1) listed a w := by
  refine ⟨fun h0 => (by rw [hr] at h0; cases h0), fun j hj => ?_⟩
  rw [hr] at hj
  have : j = i := by simpa using hj
  subst this
  exact wpOp_step ho (fun K' hK => h K' (fun a w hS hW => hK a w ⟨hS, hW⟩))
theorem wpAnyT_done {listed : Array Bool} {fuel : Nat} {a : Act} {w : World} (hr : Region.ready md ops listed = []) (h : Q .normal a w) : wpAnyT P md ops Q S n fuel listed a w := by
  cases fuel with
  | zero => exact ⟨hr, h⟩
  | succ k => exact ⟨fun _ => h, fun i hi => by rw [hr] at hi; cases hi⟩
theorem wp_region_T {id : Nat} {a : Act} {w : World} (hm : P.follows .mixedOrders = true) (S : World → Prop) (n : Nat) (h : wpAnyT P .any ops Q S n ops.size (Array.replicate ops.size false) a w.drew) : (Code.region id ops true).wp P Q a w :=
  wp_region_any hm (wpAny_of_T _ _ _ _ h)
end

/-- Where a new spread lies. -/
structure NB where
  bs : Nat
  gv : Nat
  gh : Nat
  gu : Nat
  n : Nat
  aV : Value
abbrev NB.cells (S : NB) : Array Value := #[S.aV, .slice (some ⟨S.gu, 0, none⟩) S.n S.n, .slice (some ⟨S.gv, 0, none⟩) S.n S.n, .slice (some ⟨S.gh, 0, none⟩) S.n S.n, .slice none 0 0]
structure NW (w0 wr : World) (S : NB) (cs : Array Value) (vs : List Value) (US : List (List Int)) : Prop where
  below : Below w0.heap.size w0 wr
  hgv : S.gv < w0.heap.size
  lo : w0.heap.size ≤ S.bs ∧ w0.heap.size ≤ S.gh ∧ w0.heap.size ≤ S.gu
  hi : S.bs < w0.heap.size + 4 ∧ S.gh < w0.heap.size + 4 ∧ S.gu < w0.heap.size + 4
  sz : w0.heap.size + 4 ≤ wr.heap.size
  ne : S.bs ≠ S.gu ∧ S.gh ≠ S.gu ∧ w0.heap.size ≠ S.gu
  cb : Blk wr w0.heap.size 29 cs
  held : Tab wr S.gh (List.replicate S.n false)
  box : Blk wr S.bs 192 S.cells
  us : Blk wr S.gu 22 vs.toArray
  vl : vs.length = S.n
  ul : US.length = S.n
  fam : Fam wr (w0.heap.size + 4) (vs.zip US)
section
variable {w0 wr : World} {S : NB} {cs : Array Value} {vs : List Value} {US : List (List Int)}
theorem NW.on {w1 : World} (h : NW w0 wr S cs vs US) (hb : Below wr.heap.size wr w1) : NW w0 w1 S cs vs US :=
  ⟨bt h.below (Nat.le_refl _) hb, h.hgv, h.lo, h.hi, Nat.le_trans h.sz hb.size, h.ne, h.cb.below hb h.cb.lt, Blk.below h.held hb (Blk.lt h.held), h.box.below hb h.box.lt, h.us.below hb h.us.lt, h.vl, h.ul, h.fam.keep (fun g _ hg => hb.block g hg)⟩
theorem NW.row (h : NW w0 wr S cs vs US) {v : Nat} {u : Value} {zs : List Int} (hu : vs[v]? = some u) (hz : US[v]? = some zs) : wr.ownsRow (w0.heap.size + 4) 3 1 u zs.length (zs.map (Value.int .i64)) :=
  h.fam.own (u, zs) (List.mem_of_getElem? (by rw [List.getElem?_zip_eq_some]; exact ⟨hu, hz⟩))
theorem NW.sp {T : List Int} (h : NW w0 wr S cs vs US) (hT : Nums w0 S.gv T) (hl : T.length = S.n) (hn : S.n ≤ 20000) : SP w0 wr ⟨S.bs, S.gv, S.gh, S.n, S.aV, .slice (some ⟨S.gu, 0, none⟩) S.n S.n⟩ (.slice none 0 0) T (List.replicate S.n false) [] vs US := by
  refine ⟨⟨h.below.os, h.below.tape, h.below.output, h.below.size, fun k hk _ => h.below.block k hk⟩, h.hgv, h.lo.1, h.lo.2.1, hl, by simp, h.ul, Blk.below hT h.below (Blk.lt hT), h.held, h.box, World.ownsRow_nil _ _ _ _, ⟨by rw [h.vl, h.ul], ?_, fun i u zs hu hz => ?_⟩⟩
  · rw [h.vl]
    exact ⟨by rw [h.vl]; simp, .inr ⟨S.gu, S.n, _, rfl, h.lo.2.2, h.us, Nat.le_refl _, by unfold maxLen; omega, by simp [h.vl], by simp [← h.vl]⟩⟩
  · rw [flat_ints]
    exact own_le (h.row hu hz) (by omega)
end

end Go.Proofs.YtagffmalmkcboaaDoor

/- The rule of webs with any number of last operations, one behind the other. -/
import Derived.Orders
import Derived.StillTail
import Derived.Below
import Derived.Test.YtdodhbfplglbkaaRows
namespace Go.Proofs.Ytdodhbfplglbkaa
open Go.RowKit

section
variable {P : Program} {ops : Array Oper} {Q : Exit → Act → World → Prop}

/-- The slot that operation i writes. -/
def dstOf (ops : Array Oper) (i : Nat) : Option Tmp := (ops[i]?).bind (·.dst)
/-- The values f of the operations L are in their slots. -/
def putAll (ops : Array Oper) (f : Nat → Value) : List Nat → Act → Act
  | [], a => a
  | i :: r, a => putAll ops f r (a.put (dstOf ops i) (f i))

theorem putAll_comm (f : Nat → Value) (d : Option Tmp) (v : Value) : ∀ (L : List Nat) (a : Act), (∀ j ∈ L, ∀ t, d = some t → dstOf ops j ≠ some t) → putAll ops f L (a.put d v) = (putAll ops f L a).put d v
  | [], _, _ => rfl
  | j :: r, a, h => by
    simp only [putAll]
    rw [Act.put_comm a v (f j) (fun t ht => h j (by simp) t ht)]
    exact putAll_comm f d v r _ fun k hk => h k (by simp [hk])

theorem putAll_congr {f g : Nat → Value} : ∀ (L : List Nat) (a : Act), (∀ j ∈ L, f j = g j) → putAll ops f L a = putAll ops g L a
  | [], _, _ => rfl
  | j :: r, a, h => by
    simp only [putAll]
    rw [h j (by simp)]
    exact putAll_congr r _ fun k hk => h k (by simp [hk])

/-- Distinct operations write distinct slots. -/
def DstApart (ops : Array Oper) : Prop := ∀ i j t, dstOf ops i = some t → dstOf ops j = some t → i = j

/-- One more is put. -/
theorem putAll_more (hA : DstApart ops) (f : Nat → Value) (i : Nat) (v : Value) (p q : Nat → Bool) (hp : p i = false) (hq : q i = true) (hpq : ∀ j, j ≠ i → q j = p j) :
    ∀ (L : List Nat) (a : Act), L.Nodup → i ∈ L → putAll ops (fun j => if j = i then v else f j) (L.filter q) a = (putAll ops f (L.filter p) a).put (dstOf ops i) v
  | [], _, _, h => by simp at h
  | j :: r, a, hn, h => by
    obtain ⟨hj, hn⟩ := List.nodup_cons.1 hn
    by_cases e : j = i
    · subst e
      have hr : r.filter q = r.filter p := List.filter_congr fun k hk => hpq k (fun e' => by subst e'; exact hj hk)
      rw [List.filter_cons_of_pos hq, List.filter_cons_of_neg (by simp [hp]), hr]
      simp only [putAll, if_true]
      rw [putAll_comm _ _ _ _ _ (fun k hk t ht hk' => hj (hA j k t ht hk' ▸ (List.mem_filter.1 hk).1))]
      congr 1
      exact putAll_congr _ _ fun k hk => if_neg fun e' => by subst e'; exact hj (List.mem_filter.1 hk).1
    · have hi : i ∈ r := by simpa [Ne.symm e] using h
      cases hpj : p j
      · rw [List.filter_cons_of_neg (by simp [hpq j e, hpj]), List.filter_cons_of_neg (by simp [hpj])]
        exact putAll_more hA f i v p q hp hq hpq r a hn hi
      · rw [List.filter_cons_of_pos (by simp [hpq j e, hpj]), List.filter_cons_of_pos hpj]
        simp only [putAll, if_neg e]
        exact putAll_more hA f i v p q hp hq hpq r _ hn hi

theorem putAll_size (f : Nat → Value) : ∀ (L : List Nat) (a : Act), (putAll ops f L a).tmps.size = a.tmps.size
  | [], _ => rfl
  | j :: r, a => by
    simp only [putAll]
    rw [putAll_size f r]
    cases dstOf ops j <;> simp [Act.put]

theorem eval_other (f : Nat → Value) (t : Tmp) : ∀ (L : List Nat) (a : Act), (∀ j ∈ L, dstOf ops j ≠ some t) → (putAll ops f L a).eval (.tmp t) = a.eval (.tmp t)
  | [], _, _ => rfl
  | j :: r, a, h => by
    simp only [putAll]
    rw [eval_other f t r _ (fun k hk => h k (by simp [hk]))]
    exact Act.eval_put fun d hd e => h j (by simp) (by rw [hd]; cases e; rfl)

theorem eval_one (hA : DstApart ops) (f : Nat → Value) (t : Tmp) (i : Nat) (hi : dstOf ops i = some t) : ∀ (L : List Nat) (a : Act), L.Nodup → i ∈ L → (putAll ops f L a).eval (.tmp t) = (a.put (some t) (f i)).eval (.tmp t)
  | [], _, _, h => by simp at h
  | j :: r, a, hn, h => by
    obtain ⟨hj, hn⟩ := List.nodup_cons.1 hn
    simp only [putAll]
    by_cases e : j = i
    · subst e
      rw [eval_other f t r _ (fun k hk hk' => hj (hA j k t hi hk' ▸ hk)), hi]
    · rw [eval_one hA f t i hi r _ hn (by simpa [Ne.symm e] using h)]
      have hd : ∀ d, dstOf ops j = some d → d ≠ t := fun d hd e2 => e (hA j i t (by rw [hd, e2]) hi)
      cases hdj : dstOf ops j with
      | none => rfl
      | some d =>
        have := hd d hdj
        have e3 := Act.put_comm a (x := some d) (y := some t) (f j) (f i) (fun d' hd' => by cases hd'; intro e; cases e; exact this rfl)
        rw [e3]
        exact Act.eval_put fun d' hd' e => by cases hd'; cases e; exact this rfl

/-- What is looked at is the same, if the same of what writes it has been put. -/
theorem eval_same (hA : DstApart ops) (f : Nat → Value) (t : Tmp) (L M : List Nat) (a : Act) (hL : L.Nodup) (hM : M.Nodup) (h : ∀ j, dstOf ops j = some t → (j ∈ L ↔ j ∈ M)) : (putAll ops f L a).eval (.tmp t) = (putAll ops f M a).eval (.tmp t) := by
  by_cases hx : ∃ j ∈ L, dstOf ops j = some t
  · obtain ⟨j, hj, hd⟩ := hx
    rw [eval_one hA f t j hd L a hL hj, eval_one hA f t j hd M a hM ((h j hd).1 hj)]
  · have h1 : ∀ j ∈ L, dstOf ops j ≠ some t := fun j hj hd => hx ⟨j, hj, hd⟩
    have h2 : ∀ j ∈ M, dstOf ops j ≠ some t := fun j hj hd => hx ⟨j, (h j hd).2 hj, hd⟩
    rw [eval_other f t L a h1, eval_other f t M a h2]

/-- What operation i waits for. -/
def depsOf (ops : Array Oper) (i : Nat) : List Nat := (List.range ops.size).filter fun j => Region.waitsFor .any ops i j
/-- The form of a region to which the rule speaks, as one closed fact. -/
def webB (ops : Array Oper) : Bool :=
  Region.noSelect ops &&
  ((List.range ops.size).all fun i => (List.range ops.size).all fun j => i == j || (match dstOf ops i with | some t => dstOf ops j != some t | none => true)) &&
  ((List.range ops.size).all fun i => match ops[i]? with
    | none => true
    | some o => (o.looksAt ops).all fun t => (List.range ops.size).all fun j => dstOf ops j != some t || Region.waitsFor .any ops i j || Region.waitsFor .any ops j i || i == j)

theorem dst_lt {i : Nat} {t : Tmp} (h : dstOf ops i = some t) : i < ops.size := by
  unfold dstOf at h
  rcases Nat.lt_or_ge i ops.size with h' | h'
  · exact h'
  · rw [Array.getElem?_eq_none h'] at h; cases h

theorem webB_apart (h : webB ops = true) : DstApart ops := by
  intro i j t hi hj
  simp only [webB, Bool.and_eq_true, List.all_eq_true, List.mem_range] at h
  have h1 := h.1.2 i (dst_lt hi) j (dst_lt hj)
  rw [hi, hj] at h1
  by_cases e : i = j
  · exact e
  · simp [e] at h1

theorem webB_looks (h : webB ops = true) {i j : Nat} {o : Oper} (ho : ops[i]? = some o) {t : Tmp} (ht : t ∈ o.looksAt ops) (hj : dstOf ops j = some t) :
    Region.waitsFor .any ops i j = true ∨ Region.waitsFor .any ops j i = true ∨ i = j := by
  simp only [webB, Bool.and_eq_true, List.all_eq_true, List.mem_range] at h
  have hi : i < ops.size := (Array.getElem?_eq_some_iff.1 ho).1
  have h1 := h.2 i hi
  rw [ho] at h1
  have h2 := List.all_eq_true.1 h1 t ht
  have h3 := List.all_eq_true.1 h2 j (List.mem_range.2 (dst_lt hj))
  rw [hj] at h3
  simp at h3
  rcases h3 with (h3 | h3) | h3
  · exact .inl h3
  · exact .inr (.inl h3)
  · exact .inr (.inr h3)

/-- Which operations have been carried out. -/
def doneL (ops : Array Oper) (listed : Array Bool) : List Nat := (List.range ops.size).filter fun j => listed.getD j false

theorem waits_listed {i j : Nat} {listed : Array Bool} (hr : i ∈ Region.ready .any ops listed) (h : Region.waitsFor .any ops i j = true) : listed.getD j false = true := by
  obtain ⟨_, o, ho, hall⟩ := mem_ready.1 hr
  obtain ⟨oj, hoj, e, he, hb, hon⟩ := Region.waitsFor_spec h
  rw [ho] at hoj; cases hoj
  have := hall e he hb
  rwa [hon] at this

/-- What holds in the midst: so many have been put, in a world that follows the first, each with its property. -/
structure WebInv (ops : Array Oper) (G : World → World → Prop) (val : Nat → Value → World → Prop) (sep : Nat → Value → Nat → Value → Prop) (a0 : Act) (w0 : World) (listed : Array Bool) (a : Act) (w : World) : Prop where
  size : listed.size = ops.size
  closed : ∀ j k, listed.getD j false = true → Region.waitsFor .any ops j k = true → listed.getD k false = true
  state : ∃ f : Nat → Value, a = putAll ops f (doneL ops listed) a0 ∧ (∀ j, listed.getD j false = true → val j (f j) w) ∧ (∀ j k, j ≠ k → listed.getD j false = true → listed.getD k false = true → sep j (f j) k (f k))
  world : G w0 w

/-- One operation's part: from the values of those that it waits for to its own. -/
def WebStep (P : Program) (ops : Array Oper) (G : World → World → Prop) (val fresh : Nat → Value → World → Prop) (sep : Nat → Value → Nat → Value → Prop) (a0 : Act) (w0 : World) (i : Nat) (o : Oper) : Prop :=
  ∀ (f : Nat → Value) (w : World), G w0 w → (∀ j, Region.waitsFor .any ops i j = true → val j (f j) w) → (∀ j k, j ≠ k → Region.waitsFor .any ops i j = true → Region.waitsFor .any ops i k = true → sep j (f j) k (f k)) →
    ∀ K : Act → World → Prop, (∀ v w', G w w' → val i v w' → fresh i v w → K ((putAll ops f (depsOf ops i) a0).put o.dst v) w') →
      if Region.wanted o (yielded ops (putAll ops f (depsOf ops i) a0).tmps) = true then o.wp P (putAll ops f (depsOf ops i) a0) w K (fun _ _ _ => False) else K ((putAll ops f (depsOf ops i) a0).put o.dst undef) w

theorem put_key {a b : Act} {d : Option Tmp} {v v' : Value} (hs : b.tmps.size = a.tmps.size) (e : a.put d v = a.put d v') : b.put d v = b.put d v' := by
  cases d with
  | none => rfl
  | some d =>
    simp only [Act.put, Act.mk.injEq, and_true] at e ⊢
    by_cases hlt : d < a.tmps.size
    · have := congrArg (fun x => x[d]?) e
      simp [hlt] at this
      rw [this]
    · rw [Array.setIfInBounds_eq_of_size_le (hs ▸ Nat.le_of_not_lt hlt), Array.setIfInBounds_eq_of_size_le (hs ▸ Nat.le_of_not_lt hlt)]
theorem wp_move {o : Oper} {a b : Act} {w : World} {R : Value → World → Prop} (hev : execOp b.eval o = execOp a.eval o) (hs : b.tmps.size = a.tmps.size)
    (h : o.wp P a w (fun a' w' => ∃ v, a' = a.put o.dst v ∧ R v w') (fun _ _ _ => False)) : o.wp P b w (fun b' w' => ∃ v, b' = b.put o.dst v ∧ R v w') Q := by
  have key : ∀ v v', a.put o.dst v = a.put o.dst v' → b.put o.dst v = b.put o.dst v' := by
    intro v v' e
    cases hd : o.dst with
    | none => rfl
    | some d =>
      rw [hd] at e
      simp only [Act.put, Act.mk.injEq, and_true] at e ⊢
      by_cases hlt : d < a.tmps.size
      · have := congrArg (fun x => x[d]?) e
        simp [hlt] at this
        rw [this]
      · rw [Array.setIfInBounds_eq_of_size_le (hs ▸ Nat.le_of_not_lt hlt), Array.setIfInBounds_eq_of_size_le (hs ▸ Nat.le_of_not_lt hlt)]
  unfold Oper.wp at *
  rw [hev]
  generalize (execOp a.eval o).run P w = r at *
  cases r with
  | ok n w' =>
    cases n <;> simp only [Oper.upon] at h ⊢
    case value u => obtain ⟨v, e, hr⟩ := h; exact ⟨v, key _ _ e, hr⟩
    case skip => obtain ⟨v, e, hr⟩ := h; exact ⟨v, key _ _ e, hr⟩
    case defer d =>
      obtain ⟨v, e, hr⟩ := h
      have := congrArg (fun x => x.defers.length) e
      exfalso
      generalize o.dst = od at this
      cases od <;> simp [Act.put] at this
    case enter f args =>
      refine Calls.mono h fun e w'' he => ?_
      cases e with
      | returned u => obtain ⟨v, e, hr⟩ := he; exact ⟨v, key _ _ e, hr⟩
      | panicked c => exact he.elim
      | outgrown => obtain ⟨_, _, h⟩ := (he : LetsOut _); exact h.elim
    case row row args => exact Rows.mono h fun u w'' he => by obtain ⟨v, e, hr⟩ := he; exact ⟨v, key _ _ e, hr⟩
  | halt x w' => cases x <;> simp only [Oper.upon] at h

/-- One operation, wherever it comes up. -/
theorem web_op (hB : webB ops = true) {G : World → World → Prop} {val fresh : Nat → Value → World → Prop} {sep : Nat → Value → Nat → Value → Prop} (hsep : ∀ j u i v w, j ≠ i → val j u w → fresh i v w → sep j u i v ∧ sep i v j u) {a0 : Act} {w0 : World} (htr : ∀ a b c, G a b → G b c → G a c)
    (hkeep : ∀ i v w1 w2, G w1 w2 → val i v w1 → val i v w2) {i : Nat} (hstep : ∀ o, ops[i]? = some o → WebStep P ops G val fresh sep a0 w0 i o)
    {listed : Array Bool} {a : Act} {w : World} (inv : WebInv ops G val sep a0 w0 listed a w) (hr : i ∈ Region.ready .any ops listed) :
    wpOp P ops Q i (fun a' w' => WebInv ops G val sep a0 w0 (listed.setIfInBounds i true) a' w') a w := by
  obtain ⟨hun, o, ho, hall⟩ := mem_ready.1 hr
  obtain ⟨f, rfl, hv, hsp⟩ := inv.state
  have hA := webB_apart hB
  have hi : i < ops.size := (Array.getElem?_eq_some_iff.1 ho).1
  have hun' := getD_both hun
  have hsz : i < listed.size := by rw [inv.size]; exact hi
  have hs : Region.noSelect ops = true := by
    have := hB; simp only [webB, Bool.and_eq_true] at this; exact this.1.1
  have hnd : (doneL ops listed).Nodup := List.Pairwise.filter _ List.nodup_range
  have hnd' : (depsOf ops i).Nodup := List.Pairwise.filter _ List.nodup_range
  have hmem : ∀ j, j ∈ doneL ops listed ↔ listed.getD j false = true := fun j => by
    unfold doneL
    rw [List.mem_filter, List.mem_range]
    refine ⟨fun h => h.2, fun h => ⟨?_, h⟩⟩
    rcases Nat.lt_or_ge j listed.size with h' | h'
    · rw [inv.size] at h'; exact h'
    · simp [Array.getElem?_eq_none h'] at h
  have hsame : ∀ t, t ∈ o.looksAt ops → (putAll ops f (doneL ops listed) a0).eval (.tmp t) = (putAll ops f (depsOf ops i) a0).eval (.tmp t) := by
      intro t ht
      refine eval_same hA f t _ _ a0 hnd hnd' fun j hj => ?_
      rw [hmem]
      unfold depsOf
      rw [List.mem_filter, List.mem_range]
      rcases webB_looks hB ho ht hj with h | h | h
      · exact ⟨fun _ => ⟨dst_lt hj, h⟩, fun _ => waits_listed hr h⟩
      · refine ⟨fun h1 => ?_, fun h1 => ?_⟩
        · have := inv.closed j i h1 h
          rw [hun'] at this; cases this
        · have h2 := waits_listed hr h1.2
          have := inv.closed j i h2 h
          rw [hun'] at this; cases this
      · subst h
        refine ⟨fun h1 => ?_, fun h1 => ?_⟩
        · rw [hun'] at h1; cases h1
        · have h2 := waits_listed hr h1.2
          rw [hun'] at h2; cases h2
  have hev : execOp (putAll ops f (doneL ops listed) a0).eval o = execOp (putAll ops f (depsOf ops i) a0).eval o := by
    refine execOp_congr o (fun cs b => Region.noSelect_spec hs i o cs b ho) fun x hx => ?_
    cases x with
    | tmp t => exact hsame t (List.mem_append_left _ (List.mem_filterMap.2 ⟨.tmp t, by simpa using hx, rfl⟩))
    | _ => rfl
  have hwt : Region.wanted o (yielded ops (putAll ops f (doneL ops listed) a0).tmps) = Region.wanted o (yielded ops (putAll ops f (depsOf ops i) a0).tmps) := by
    unfold Region.wanted
    cases hg : o.guard with
    | none => rfl
    | some gw =>
      obtain ⟨g, want⟩ := gw
      have : yielded ops (putAll ops f (doneL ops listed) a0).tmps g = yielded ops (putAll ops f (depsOf ops i) a0).tmps g := by
        unfold yielded
        cases ht : (ops[g]?).bind (·.dst) with
        | none => rfl
        | some t =>
          have htl : t ∈ o.looksAt ops := by simp [Oper.looksAt, hg, ht]
          have he := hsame t htl
          have hs1 := putAll_size (ops := ops) f (doneL ops listed) a0
          have hs2 := putAll_size (ops := ops) f (depsOf ops i) a0
          have : (putAll ops f (doneL ops listed) a0).tmps[t]? = (putAll ops f (depsOf ops i) a0).tmps[t]? := by
            by_cases hlt : t < a0.tmps.size
            · have h1 : t < (putAll ops f (doneL ops listed) a0).tmps.size := hs1.symm ▸ hlt
              have h2 : t < (putAll ops f (depsOf ops i) a0).tmps.size := hs2.symm ▸ hlt
              rw [Array.getElem?_eq_getElem h1, Array.getElem?_eq_getElem h2]
              simpa [Act.eval, Array.getD, h1, h2] using he
            · rw [Array.getElem?_eq_none (hs1.symm ▸ Nat.le_of_not_lt hlt), Array.getElem?_eq_none (hs2.symm ▸ Nat.le_of_not_lt hlt)]
          simp only [Option.bind_some]
          rw [this]
      simp only [this]
  have hdo : dstOf ops i = o.dst := by simp [dstOf, ho]
  have hst := hstep o ho f w inv.world (fun j hj => hv j (waits_listed hr hj)) (fun j k hjk hj hk => hsp j k hjk (waits_listed hr hj) (waits_listed hr hk)) (fun a' w' => ∃ v, a' = (putAll ops f (depsOf ops i) a0).put o.dst v ∧ (G w w' ∧ val i v w' ∧ fresh i v w)) (fun v w' h1 h2 h3 => ⟨v, rfl, h1, h2, h3⟩)
  have fin : ∀ a' w', (∃ v, a' = (putAll ops f (doneL ops listed) a0).put o.dst v ∧ (G w w' ∧ val i v w' ∧ fresh i v w)) → WebInv ops G val sep a0 w0 (listed.setIfInBounds i true) a' w' := by
    rintro a' w' ⟨v, rfl, h1, h2, h3⟩
    have hget : ∀ j, (listed.setIfInBounds i true).getD j false = true ↔ (j = i ∨ listed.getD j false = true) := fun j => by
      by_cases e : i = j
      · subst e; simp [hsz]
      · rw [getD_set_ne false e]; simp [Ne.symm e]
    refine ⟨by simp [inv.size], fun j k hj hk => ?_, ⟨fun j => if j = i then v else f j, ?_, fun j hj => ?_, fun j k hjk hj hk => ?_⟩, htr _ _ _ inv.world h1⟩
    · rw [hget] at hj ⊢
      rcases hj with rfl | hj
      · exact .inr (waits_listed hr hk)
      · exact .inr (inv.closed j k hj hk)
    · have := putAll_more hA f i v (fun j => listed.getD j false) (fun j => (listed.setIfInBounds i true).getD j false) hun' ((hget i).2 (.inl rfl))
        (fun j hj => by rw [getD_set_ne false (Ne.symm hj)]) (List.range ops.size) a0 List.nodup_range (List.mem_range.2 hi)
      rw [hdo] at this
      exact this.symm
    · rcases (hget j).1 hj with rfl | hj'
      · simpa using h2
      · have hne : j ≠ i := fun e => by subst e; rw [hun'] at hj'; cases hj'
        simp only [if_neg hne]
        exact hkeep _ _ _ _ h1 (hv j hj')
    · simp only
      rcases (hget j).1 hj with e | hj'
      · rcases (hget k).1 hk with e2 | hk'
        · exact absurd (e.trans e2.symm) hjk
        · subst e
          rw [if_pos rfl, if_neg (Ne.symm hjk)]
          exact (hsep k _ _ v w (Ne.symm hjk) (hv k hk') h3).2
      · have hne : j ≠ i := fun e => by subst e; rw [hun'] at hj'; cases hj'
        rw [if_neg hne]
        rcases (hget k).1 hk with e2 | hk'
        · subst e2
          rw [if_pos rfl]
          exact (hsep j _ _ v w hjk (hv j hj') h3).1
        · have hne2 : k ≠ i := fun e => by subst e; rw [hun'] at hk'; cases hk'
          rw [if_neg hne2]
          exact hsp j k hjk hj' hk'
  unfold wpOp
  simp only [ho]
  rw [hwt]
  by_cases hw : Region.wanted o (yielded ops (putAll ops f (depsOf ops i) a0).tmps) = true
  · rw [if_pos hw] at hst
    rw [if_pos hw]
    exact .inl (Oper.wp_mono (fun a' w' h => fin a' w' h) (wp_move (P := P) (Q := Q) hev (by rw [putAll_size, putAll_size]) hst))
  · rw [if_neg hw] at hst
    rw [if_neg hw]
    obtain ⟨v, e, h1, h2, h3⟩ := hst
    exact fin _ _ ⟨v, put_key (by rw [putAll_size, putAll_size]) e, h1, h2, h3⟩

theorem web_any (hB : webB ops = true) {G : World → World → Prop} {val fresh : Nat → Value → World → Prop} {sep : Nat → Value → Nat → Value → Prop} (hsep : ∀ j u i v w, j ≠ i → val j u w → fresh i v w → sep j u i v ∧ sep i v j u) {a0 : Act} {w0 : World} (htr : ∀ a b c, G a b → G b c → G a c)
    (hkeep : ∀ i v w1 w2, G w1 w2 → val i v w1 → val i v w2) (hstep : ∀ i o, ops[i]? = some o → WebStep P ops G val fresh sep a0 w0 i o)
    (hend : ∀ (f : Nat → Value) (w : World), G w0 w → (∀ j, j < ops.size → val j (f j) w) → (∀ j k, j ≠ k → j < ops.size → k < ops.size → sep j (f j) k (f k)) → Q .normal (putAll ops f (List.range ops.size) a0) w)
    (hacy : ∀ i j, Region.waitsFor .any ops i j = true → j < i) :
    ∀ (fuel : Nat) (listed : Array Bool) (a : Act) (w : World), (listed.toList.countP (· == false)) ≤ fuel → WebInv ops G val sep a0 w0 listed a w → wpAny P .any ops Q fuel listed a w := by
  have fin : ∀ listed a w, WebInv ops G val sep a0 w0 listed a w → Region.ready .any ops listed = [] → Q .normal a w := by
    intro listed a w inv hr
    obtain ⟨f, rfl, hv, hsp⟩ := inv.state
    have hall : ∀ n j, j < n → j < ops.size → listed.getD j false = true := by
      intro n
      induction n with
      | zero => intro j h; omega
      | succ n ih =>
        intro j hj hjs
        cases hl : listed.getD j false with
        | true => rfl
        | false =>
          exfalso
          have hm : j ∈ Region.ready .any ops listed := by
            rw [mem_ready]
            refine ⟨getD_in (by rw [inv.size]; exact hjs) hl, ops[j], Array.getElem?_eq_getElem hjs, fun e he hb => ?_⟩
            have hw : Region.waitsFor .any ops j e.on = true := by
              unfold Region.waitsFor
              rw [Array.getElem?_eq_getElem hjs]
              exact Array.any_eq_true'.2 ⟨e, he, by simp [hb]⟩
            have := hacy _ _ hw
            exact ih e.on (by omega) (by omega)
          rw [hr] at hm; cases hm
    have hd : doneL ops listed = List.range ops.size := by
      unfold doneL
      exact List.filter_eq_self.2 fun j hj => hall (j + 1) j (by omega) (List.mem_range.1 hj)
    rw [hd]
    exact hend f w inv.world (fun j hj => hv j (hall (j + 1) j (by omega) hj)) (fun j k hjk hj hk => hsp j k hjk (hall (j + 1) j (by omega) hj) (hall (k + 1) k (by omega) hk))
  intro fuel
  induction fuel with
  | zero =>
    intro listed a w hc inv
    have hr : Region.ready .any ops listed = [] := by
      cases h : Region.ready .any ops listed with
      | nil => rfl
      | cons i r =>
        exfalso
        have hm : i ∈ Region.ready .any ops listed := by rw [h]; simp
        have hun := (mem_ready.1 hm).1
        have hlt : i < listed.size := by
          rcases Nat.lt_or_ge i listed.size with h' | h'
          · exact h'
          · simp [Array.getElem?_eq_none h'] at hun
        have : 0 < listed.toList.countP (· == false) := List.countP_pos_iff.2 ⟨listed[i], by simp, by simp [hlt] at hun; simp [hun]⟩
        omega
    exact ⟨hr, fin _ _ _ inv hr⟩
  | succ fuel ih =>
    intro listed a w hc inv
    refine ⟨fin _ _ _ inv, fun i hi => wpOp_mono (fun a' w' inv' => ih _ a' w' ?_ inv') (web_op hB hsep htr hkeep (hstep i) inv hi)⟩
    have hun := (mem_ready.1 hi).1
    have hlt : i < listed.size := by
      rcases Nat.lt_or_ge i listed.size with h' | h'
      · exact h'
      · simp [Array.getElem?_eq_none h'] at hun
    have hl : listed.toList[i]'(by simpa using hlt) = false := by simp [hlt] at hun; simpa using hun
    have := List.countP_set (p := (· == false)) (l := listed.toList) (i := i) (a := true) (by simpa using hlt)
    rw [Array.toList_setIfInBounds, this, if_pos (by rw [hl]; rfl), if_neg (by simp)]
    omega

def acyB (ops : Array Oper) : Bool := (List.range ops.size).all fun i => match ops[i]? with
  | none => true
  | some o => o.after.all fun e => !Region.binds .any e || decide (e.on < i)
theorem acyB_spec (h : acyB ops = true) (i j : Nat) (hw : Region.waitsFor .any ops i j = true) : j < i := by
  obtain ⟨o, ho, e, he, hb, rfl⟩ := Region.waitsFor_spec hw
  simp only [acyB, List.all_eq_true, List.mem_range] at h
  have h1 := h i (Array.getElem?_eq_some_iff.1 ho).1
  rw [ho] at h1
  have := Array.all_eq_true_iff_forall_mem.1 h1 e he
  simpa [hb] using this

/-- THE RULE. -/
theorem wp_region_web {id : Nat} {a : Act} {w : World} (hm : P.follows .mixedOrders = true) (hB : webB ops = true) (hacy : acyB ops = true)
    (G : World → World → Prop) (val fresh : Nat → Value → World → Prop) (sep : Nat → Value → Nat → Value → Prop) (hsep : ∀ j u i v w, j ≠ i → val j u w → fresh i v w → sep j u i v ∧ sep i v j u) (hrf : ∀ a, G a a) (htr : ∀ a b c, G a b → G b c → G a c)
    (hkeep : ∀ i v w1 w2, G w1 w2 → val i v w1 → val i v w2)
    (hstep : ∀ i o, ops[i]? = some o → WebStep P ops G val fresh sep a { w with drawn := w.drawn + 1 } i o)
    (hend : ∀ (f : Nat → Value) (w' : World), G { w with drawn := w.drawn + 1 } w' → (∀ j, j < ops.size → val j (f j) w') → (∀ j k, j ≠ k → j < ops.size → k < ops.size → sep j (f j) k (f k)) → Q .normal (putAll ops f (List.range ops.size) a) w') :
    (Code.region id ops true).wp P Q a w := by
  refine wp_region_any hm (web_any hB hsep htr hkeep hstep hend (acyB_spec hacy) _ _ _ _ ?_ ?_)
  · rw [Array.toList_replicate, List.countP_replicate]; simp
  · refine ⟨by simp, fun j k hj => ?_, ⟨fun _ => undef, ?_, fun j hj => ?_, fun j k _ hj _ => ?_⟩, hrf _⟩
    · rw [getD_replicate_false] at hj; cases hj
    · have : doneL ops (Array.replicate ops.size false) = [] := by
        unfold doneL
        exact List.filter_eq_nil_iff.2 fun j _ => by rw [getD_replicate_false]; simp
      rw [this]; rfl
    · rw [getD_replicate_false] at hj; cases hj
    · rw [getD_replicate_false] at hj; cases hj

theorem unlisted_lt {i : Nat} {listed : Array Bool} (h : listed.getD i true = false) : i < listed.size := by
  rcases Nat.lt_or_ge i listed.size with h' | h'
  · exact h'
  · simp [Array.getElem?_eq_none h'] at h
theorem count_set {listed : Array Bool} {i fuel : Nat} (hun : listed.getD i true = false) (hc : listed.toList.countP (· == false) ≤ fuel + 1) : (listed.setIfInBounds i true).toList.countP (· == false) ≤ fuel := by
  have hlt := unlisted_lt hun
  have hl : listed.toList[i]'(by simpa using hlt) = false := by simp [hlt] at hun; simpa using hun
  have := List.countP_set (p := (· == false)) (l := listed.toList) (i := i) (a := true) (by simpa using hlt)
  rw [Array.toList_setIfInBounds, this, if_pos (by rw [hl]; rfl), if_neg (by simp)]
  omega

/-- Likewise where the last operation waits for all others, and is carried out by itself. -/
theorem web_tail (hB : webB ops = true) {G : World → World → Prop} {val fresh : Nat → Value → World → Prop} {sep : Nat → Value → Nat → Value → Prop} (hsep : ∀ j u i v w, j ≠ i → val j u w → fresh i v w → sep j u i v ∧ sep i v j u) {a0 : Act} {w0 : World} (htr : ∀ a b c, G a b → G b c → G a c)
    (hkeep : ∀ i v w1 w2, G w1 w2 → val i v w1 → val i v w2) {n : Nat} (hn : ops.size = n + 1) (hsink : Region.sinkB .any ops n = true)
    (hstep : ∀ i o, i < n → ops[i]? = some o → WebStep P ops G val fresh sep a0 w0 i o) (hne : ∀ j, Region.waitsFor .any ops j n = false)
    (hend : ∀ (f : Nat → Value) (w : World), G w0 w → (∀ j, j < n → val j (f j) w) → (∀ j k, j ≠ k → j < n → k < n → sep j (f j) k (f k)) → wpOp P ops Q n (fun a' w' => Q .normal a' w') (putAll ops f (List.range n) a0) w)
    (hacy : ∀ i j, Region.waitsFor .any ops i j = true → j < i) :
    ∀ (fuel : Nat) (listed : Array Bool) (a : Act) (w : World), (listed.toList.countP (· == false)) ≤ fuel → listed.getD n true = false → WebInv ops G val sep a0 w0 listed a w → wpAny P .any ops Q fuel listed a w := by
  have all_ : ∀ listed a w, WebInv ops G val sep a0 w0 listed a w → n ∈ Region.ready .any ops listed → ∀ d j, n - j = d → j < n → listed.getD j false = true := by
    intro listed a w inv hr d
    induction d using Nat.strongRecOn with
    | _ d ih =>
      intro j hd hj
      have h1 := List.all_eq_true.1 hsink j (List.mem_range.2 hj)
      obtain ⟨k, hk, hk2⟩ := List.any_eq_true.1 h1
      simp only [Bool.and_eq_true, decide_eq_true_eq] at hk2
      have hkn := List.mem_range.1 hk
      by_cases e : k = n
      · subst e; exact waits_listed hr hk2.2
      · exact inv.closed k j (ih (n - k) (by omega) k rfl (by omega)) hk2.2
  have some_ : ∀ listed a w, WebInv ops G val sep a0 w0 listed a w → listed.getD n true = false → Region.ready .any ops listed ≠ [] := by
    intro listed a w inv hun hnil
    have hall : ∀ m j, j < m → j < ops.size → listed.getD j false = true := by
      intro m
      induction m with
      | zero => intro j h; omega
      | succ m ih =>
        intro j hj hjs
        cases hl : listed.getD j false with
        | true => rfl
        | false =>
          exfalso
          have hm : j ∈ Region.ready .any ops listed := by
            rw [mem_ready]
            refine ⟨getD_in (by rw [inv.size]; exact hjs) hl, ops[j], Array.getElem?_eq_getElem hjs, fun e he hb => ?_⟩
            have hw : Region.waitsFor .any ops j e.on = true := by
              unfold Region.waitsFor
              rw [Array.getElem?_eq_getElem hjs]
              exact Array.any_eq_true'.2 ⟨e, he, by simp [hb]⟩
            have := hacy _ _ hw
            exact ih e.on (by omega) (by omega)
          rw [hnil] at hm; cases hm
    have := hall (n + 1) n (by omega) (by omega)
    rw [getD_both hun] at this; cases this
  intro fuel
  induction fuel with
  | zero =>
    intro listed a w hc hun inv
    exfalso
    have hlt := unlisted_lt hun
    have : 0 < listed.toList.countP (· == false) := List.countP_pos_iff.2 ⟨listed[n], by simp, by simp [hlt] at hun; simp [hun]⟩
    omega
  | succ fuel ih =>
    intro listed a w hc hun inv
    refine ⟨fun h => absurd h (some_ _ _ _ inv hun), fun i hi => ?_⟩
    by_cases e : i = n
    · subst e
      obtain ⟨f, rfl, hv, hsp⟩ := inv.state
      have hd : doneL ops listed = List.range i := by
        unfold doneL
        rw [hn, List.range_succ, List.filter_append, List.filter_eq_self.2 (fun j hj => all_ _ _ _ inv hi _ j rfl (List.mem_range.1 hj))]
        have : listed.getD i false = false := getD_both hun
        simp [List.filter_cons]
        simpa using this
      rw [hd]
      refine wpOp_mono (fun a' w' hq => ?_) (hend f w inv.world (fun j hj => hv j (all_ _ _ _ inv hi _ j rfl hj)) (fun j k hjk hj hk => hsp j k hjk (all_ _ _ _ inv hi _ j rfl hj) (all_ _ _ _ inv hi _ k rfl hk)))
      refine wpAny_done ?_ hq fuel
      cases hr : Region.ready .any ops (listed.setIfInBounds i true) with
      | nil => rfl
      | cons j r =>
        exfalso
        have hm : j ∈ Region.ready .any ops (listed.setIfInBounds i true) := by rw [hr]; simp
        have h1 := (mem_ready.1 hm).1
        have h2 := unlisted_lt h1
        rw [Array.size_setIfInBounds, inv.size, hn] at h2
        by_cases e : i = j
        · subst e; simp [unlisted_lt hun] at h1
        · rw [getD_set_ne true e] at h1
          have := all_ _ _ _ inv hi _ j rfl (by omega)
          rw [getD_both h1] at this; cases this
    · have hin : i < n := by
        have := unlisted_lt (mem_ready.1 hi).1
        rw [inv.size, hn] at this; omega
      refine wpOp_mono (fun a' w' inv' => ih _ a' w' (count_set (mem_ready.1 hi).1 hc) ?_ inv') (web_op hB hsep htr hkeep (hstep i · hin) inv hi)
      rw [getD_set_ne true e]; exact hun

theorem wp_region_web_tail {id : Nat} {a : Act} {w : World} (hm : P.follows .mixedOrders = true) (n : Nat) (hB : (webB ops && acyB ops && (ops.size == n + 1) && Region.sinkB .any ops n && (List.range (n + 1)).all fun j => !Region.waitsFor .any ops j n) = true)
    (G : World → World → Prop) (val fresh : Nat → Value → World → Prop) (sep : Nat → Value → Nat → Value → Prop) (hsep : ∀ j u i v w, j ≠ i → val j u w → fresh i v w → sep j u i v ∧ sep i v j u) (hrf : ∀ a, G a a) (htr : ∀ a b c, G a b → G b c → G a c)
    (hkeep : ∀ i v w1 w2, G w1 w2 → val i v w1 → val i v w2)
    (hstep : ∀ i o, i < n → ops[i]? = some o → WebStep P ops G val fresh sep a { w with drawn := w.drawn + 1 } i o)
    (hend : ∀ (f : Nat → Value) (w' : World), G { w with drawn := w.drawn + 1 } w' → (∀ j, j < n → val j (f j) w') → (∀ j k, j ≠ k → j < n → k < n → sep j (f j) k (f k)) → wpOp P ops Q n (fun a' w' => Q .normal a' w') (putAll ops f (List.range n) a) w') :
    (Code.region id ops true).wp P Q a w := by
  simp only [Bool.and_eq_true, beq_iff_eq] at hB
  obtain ⟨⟨⟨⟨h1, h2⟩, h3⟩, h4⟩, h5⟩ := hB
  have hne : ∀ j, Region.waitsFor .any ops j n = false := fun j => by
    rcases Nat.lt_or_ge j (n + 1) with h | h
    · have := List.all_eq_true.1 h5 j (List.mem_range.2 h)
      simpa using this
    · unfold Region.waitsFor; rw [Array.getElem?_eq_none (by omega)]
  refine wp_region_any hm (web_tail h1 hsep htr hkeep h3 h4 hstep hne hend (acyB_spec h2) _ _ _ _ ?_ ?_ ?_)
  · rw [Array.toList_replicate, List.countP_replicate]; simp
  · simp [h3]
  · refine ⟨by simp, fun j k hj => ?_, ⟨fun _ => undef, ?_, fun j hj => ?_, fun j k _ hj _ => ?_⟩, hrf _⟩
    · rw [getD_replicate_false] at hj; cases hj
    · have : doneL ops (Array.replicate ops.size false) = [] := by
        unfold doneL
        exact List.filter_eq_nil_iff.2 fun j _ => by rw [getD_replicate_false]; simp
      rw [this]; rfl
    · rw [getD_replicate_false] at hj; cases hj
    · rw [getD_replicate_false] at hj; cases hj

/-- One operation's part, from what its operands hold (nothing is said of the frame besides). -/
theorem webStep_of {G : World → World → Prop} {val fresh : Nat → Value → World → Prop} {sep : Nat → Value → Nat → Value → Prop} {a0 : Act} {w0 : World} {i : Nat} {o : Oper} (hB : webB ops = true) (hg : o.guard = none)
    (h : ∀ (f : Nat → Value) (aC : Act) (w1 : World), G w0 w1 → (∀ j t, Region.waitsFor .any ops i j = true → dstOf ops j = some t → t < a0.tmps.size → aC.eval (.tmp t) = f j) →
      (∀ t, (∀ j, j < ops.size → dstOf ops j ≠ some t) → aC.eval (.tmp t) = a0.eval (.tmp t)) → (∀ j, Region.waitsFor .any ops i j = true → val j (f j) w1) → (∀ j k, j ≠ k → Region.waitsFor .any ops i j = true → Region.waitsFor .any ops i k = true → sep j (f j) k (f k)) →
      ∀ K : Act → World → Prop, (∀ v w', G w1 w' → val i v w' → fresh i v w1 → K (aC.put o.dst v) w') → o.wp P aC w1 K (fun _ _ _ => False)) : WebStep P ops G val fresh sep a0 w0 i o := by
  intro f w1 hw hv hsp K hK
  rw [if_pos (by simp [Region.wanted, hg])]
  have hA := webB_apart hB
  have hnd : (depsOf ops i).Nodup := List.Pairwise.filter _ List.nodup_range
  refine h f _ w1 hw (fun j t hj hd ht => ?_) (fun t ht => ?_) hv hsp K hK
  · rw [eval_one hA f t j hd (depsOf ops i) a0 hnd (List.mem_filter.2 ⟨List.mem_range.2 (dst_lt hd), hj⟩)]
    simp [Act.eval, Act.put, Array.getD, ht]
  · exact eval_other f t _ a0 fun j hj => ht j (List.mem_range.1 (List.mem_filter.1 hj).1)
/-- The parts of all operations of a list, from number p on. -/
def StepsL (P : Program) (ops : Array Oper) (G : World → World → Prop) (val fresh : Nat → Value → World → Prop) (sep : Nat → Value → Nat → Value → Prop) (a0 : Act) (w0 : World) : List Oper → Nat → Prop
  | [], _ => True
  | o :: r, p => WebStep P ops G val fresh sep a0 w0 p o ∧ StepsL P ops G val fresh sep a0 w0 r (p + 1)
theorem StepsL.at_ {G : World → World → Prop} {val fresh : Nat → Value → World → Prop} {sep : Nat → Value → Nat → Value → Prop} {a0 : Act} {w0 : World} : ∀ (l : List Oper) (p : Nat), StepsL P ops G val fresh sep a0 w0 l p → ∀ i o, p ≤ i → l[i - p]? = some o → WebStep P ops G val fresh sep a0 w0 i o
  | [], _, _, _, _, _, h => by simp at h
  | a :: r, p, h, i, o, hi, ho => by
    by_cases e : i = p
    · subst e; simp at ho; subst ho; exact h.1
    · have hi' : i - p = (i - (p + 1)) + 1 := by omega
      rw [hi'] at ho
      exact StepsL.at_ r (p + 1) h.2 i o (by omega) (by simpa using ho)
/-- Properties of a value that what comes later leaves. -/
def Stab (G : World → World → Prop) (p : Value → World → Prop) : Prop := ∀ v w w', G w w' → p v w → p v w'
def cst (c : Value) : Value → World → Prop := fun v _ => v = c
theorem cst_stab {G : World → World → Prop} (c : Value) : Stab G (cst c) := fun _ _ _ _ h => h
def valL (L : List (Value → World → Prop)) (i : Nat) : Value → World → Prop := L.getD i (fun _ _ => True)
theorem valL_keep {G : World → World → Prop} : ∀ (L : List (Value → World → Prop)), (∀ p ∈ L, Stab G p) → ∀ i v w1 w2, G w1 w2 → valL L i v w1 → valL L i v w2 := by
  intro L h i v w1 w2 hg hv
  unfold valL at *
  rcases Nat.lt_or_ge i L.length with hi | hi
  · have e : L.getD i (fun _ _ => True) = L[i] := by simp [List.getD, hi]
    rw [e] at hv ⊢
    exact h _ (List.getElem_mem hi) v w1 w2 hg hv
  · have e : L.getD i (fun _ _ => True) = fun _ _ => True := by simp [List.getD, hi]
    rw [e]; trivial
end
end Go.Proofs.Ytdodhbfplglbkaa

namespace Go.Proofs.Ytdodhbfplglbkaa
open Go.RowKit
section
variable {P : Program} {ops : Array Oper} {Q : Exit → Act → World → Prop}
end
end Go.Proofs.Ytdodhbfplglbkaa

namespace Go.Proofs.Ytdodhbfplglbkaa
open Go.RowKit

section
variable {P : Program} {ops : Array Oper} {Q : Exit → Act → World → Prop}
end
end Go.Proofs.Ytdodhbfplglbkaa
